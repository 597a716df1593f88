import Derived.Test.YtnihhbfgbilimaaGreatDoorVad
import Derived.Test.YtnihhbfgbilimaaGreatDoorPu
import Derived.Test.YtnihhbfgbilimaaGreatDoorZPp
namespace Go.Proofs.YtnihhbfgbilimaaGreatDoor
open Go.RowKit
set_option linter.unusedVariables false
set_option linter.unusedSimpArgs false
variable {d : Nat} {bt : TypeId} {fh : List Value}
structure FN (w : World) (b pb lb c : Nat) : Prop where
 hb : b < w.heap.size
 hp : w.heap.size ≤ pb
 hl : w.heap.size ≤ lb
 hc : w.heap.size ≤ c
 n1 : pb ≠ lb
 n2 : pb ≠ c
 n3 : lb ≠ c
structure FP (w : World) (b pb bb lb c n m : Nat) (L : List Int) (ws : List (BitVec 64)) (W : World) : Prop where
 lf : LAt W lb L
 wf : WAt W c ws
 box : PBx W pb bb lb n c m
 on : Only b w W
theorem Only.then {b c : Nat} {w W V : World} (h : Only b w W) (hc : w.heap.size ≤ c) (g : Only c W V) : Only b w V :=
 ⟨g.os.trans h.os, g.tape.trans h.tape, g.output.trans h.output, Nat.le_trans h.size g.size, fun k hk hb => (g.block k (Nat.lt_of_lt_of_le hk h.size) (by omega)).trans (h.block k hk hb)⟩
theorem Only.two {b lb c : Nat} {w W V : World} (h : Only b w W) (h1 : w.heap.size ≤ lb) (h2 : w.heap.size ≤ c) (g : Two lb c W V) : Only b w V :=
 ⟨g.os.trans h.os, g.tape.trans h.tape, g.output.trans h.output, Nat.le_trans h.size g.size, fun k hk hb => (g.block k (Nat.lt_of_lt_of_le hk h.size) (by omega) (by omega)).trans (h.block k hk hb)⟩
section
variable {w : World} {b pb bb lb c n m : Nat} {L L' : List Int} {ws ws' : List (BitVec 64)} {W W' : World}
theorem FP.mark (h : FP w b pb bb lb c n m L ws W) (s : FN w b pb lb c) (g : Only c W W') (hw : WAt W' c ws') : FP w b pb bb lb c n m L ws' W' :=
 ⟨h.lf.kept (g.block lb h.lf.lt s.n3), hw, h.box.kept (g.block pb h.box.facts.1 s.n2), h.on.then s.hc g⟩
theorem FP.vals (h : FP w b pb bb lb c n m L ws W) (s : FN w b pb lb c) (i : Nat) (u : Value) : FP w b pb bb lb c n m L ws (W.setCell ⟨b, i, none⟩ u) :=
 ⟨h.lf.kept (Below.heap_setCell _ _ _ _ (by have := s.hb; have := s.hl; show lb ≠ b; omega)), h.wf.kept (Below.heap_setCell _ _ _ _ (by have := s.hb; have := s.hc; show c ≠ b; omega)), h.box.kept (Below.heap_setCell _ _ _ _ (by have := s.hb; have := s.hp; show pb ≠ b; omega)), h.on.setCell i u⟩
theorem FP.below (h : FP w b pb bb lb c n m L ws W) (hb : Below W.heap.size W W') : FP w b pb bb lb c n m L ws W' :=
 ⟨h.lf.kept (hb.block lb h.lf.lt), h.wf.kept (hb.block c h.wf.lt), h.box.kept (hb.block pb h.box.facts.1), h.on.trans (Only.of_below hb)⟩
theorem FP.grown (h : FP w b pb bb lb c n m L ws W) {v : Value} {q : Nat} {xs : List Value} (ho : W.ownsRow w.heap.size 2 1 v q xs) (hg : W.grownBy W' v.ownBlock) : FP w b pb bb lb c n m L ws W' := by
 have key : ∀ (k : Nat) (us : Array Value) (t : TypeId), W.heap[k]? = some (.cells us t) → t ≠ 2 → W'.heap[k]? = W.heap[k]? := fun k us t e ht => by
  refine hg.block k (Array.getElem?_eq_some_iff.1 e).1 (fun e' => ?_)
  obtain ⟨cur, h2⟩ := own_kind ho e'.symm
  rw [e] at h2
  cases h2
  exact ht rfl
 exact ⟨h.lf.kept (key lb _ _ h.lf (by decide)), h.wf.kept (key c _ _ h.wf (by decide)), h.box.kept (key pb _ _ h.box (by decide)), h.on.grown hg (fun g e => (ho.lt g e).1)⟩
theorem FP.two (h : FP w b pb bb lb c n m L ws W) (s : FN w b pb lb c) (g : Two lb c W W') (h1 : LAt W' lb L') (h2 : WAt W' c ws') : FP w b pb bb lb c n m L' ws' W' :=
 ⟨h1, h2, h.box.kept (g.block pb h.box.facts.1 s.n1 s.n2), h.on.two s.hl s.hc g⟩
theorem FP.row_mark (h : FP w b pb bb lb c n m L ws W) {v : Value} {q : Nat} {xs : List Value} (ho : W.ownsRow w.heap.size 2 1 v q xs) (g : Only c W W') : W'.ownsRow w.heap.size 2 1 v q xs :=
 own_typed ho (fun k us _ e => (g.block k (Array.getElem?_eq_some_iff.1 e).1 (fun e' => by
  have := h.wf
  unfold WAt at this
  rw [e', this] at e
  cases e)).trans e)
theorem FP.row_two (h : FP w b pb bb lb c n m L ws W) {v : Value} {q : Nat} {xs : List Value} (ho : W.ownsRow w.heap.size 2 1 v q xs) (g : Two lb c W W') : W'.ownsRow w.heap.size 2 1 v q xs :=
 own_typed ho (fun k us _ e => (g.block k (Array.getElem?_eq_some_iff.1 e).1 (fun e' => by
  have := h.lf
  unfold LAt at this
  rw [e', this] at e
  cases e) (fun e' => by
  have := h.wf
  unfold WAt at this
  rw [e', this] at e
  cases e)).trans e)
end
theorem FS.fp {w : World} {b pb bb lb c n m : Nat} {vars : Int} {css : List (List Int)} {R : List Int × Int} {T0 fl L : List Int} {ws : List (BitVec 64)} {v : Value} {W : World} (h : FS d bt fh w b pb bb lb c n m vars css R T0 fl L ws v W) : FP w b pb bb lb c n m L ws W := ⟨h.lf, h.wf, h.box, h.on⟩
theorem dropM_bit {ws : List (BitVec 64)} {p m : Nat} (hm : ws.length = m) (hp : p < 64 * m) (q : Nat) : bitM (dropM ws p) q = if q = p then false else bitM ws q := dropM_at ws p q (by omega)
theorem ints_new (w : World) (z : Int) : Ints (w.alloc (.cells #[.int .i64 z] 2)) (some ⟨w.heap.size, 0, none⟩) [z] := by
 refine .inr ⟨w.heap.size, 0, rfl, by simp, fun i hi => ?_⟩
 have : i = 0 := by simpa using hi
 subst this
 have h := new_at w (.cells #[.int .i64 z] 2)
 generalize w.alloc (.cells #[.int .i64 z] 2) = W at *
 simp [World.cell?, h]
theorem SpTo.consA {vars : Int} {zs : List Int} (h : SpTo vars zs zs.length) : Cons zs := by
 have := h.cons (Nat.le_refl _)
 rwa [List.take_length] at this
set_option maxRecDepth 100000 in
set_option maxHeartbeats 8000000 in
theorem fol_any {b B bb : Nat} {vc : Value} {hs : List Value} {ms : List LCl} (vars : Int) (T0 : List Int) (w : World) (hv : VAt d bt fh w b T0) (hbt : bt ≠ 241 ∧ bt ≠ 289 ∧ bt ≠ 3) (hv1 : vars ≤ 96) (hsp : SpTo vars T0 T0.length) (hK : Bk B bb vc hs ms (occI (bareC ms)) w) (hms : ms.length ≤ 90000) (hw : ∀ r ∈ ms, (∀ z ∈ r.2, OkZ vars z) ∧ r.2.Nodup ∧ r.2.length ≤ 1000) (hz : ∀ W, KeepB b w W → ∀ r ∈ ms, ClIn W r) (hT : TabB w) (hb0 : b ≠ 0) :
  Calls Tryz.prog 222 #[.pointer (some ⟨b, d, none⟩), .pointer (some ⟨bb, 0, none⟩)] w fun e w' => ∃ v fl, e = .returned (.tuple #[v, .int .i64 (resF (bareC ms) (97 - T0.length) T0).2]) ∧ T0 ++ fl = (resF (bareC ms) (97 - T0.length) T0).1 ∧ w'.ownsRow w.heap.size 2 1 v fl.length (valsZ fl) ∧ Only b w w' ∧ VAt d bt fh w' b (resF (bareC ms) (97 - T0.length) T0).1 := by
 obtain ⟨i0, hi0, hz0, hz1, hz2⟩ := info_parts info2'
 obtain ⟨cs, ck, rfl⟩ := own_v hK.rc
 have hblt := hv.lt
 have hlit : ∀ r ∈ ms, LitOk r.2 ∧ ∀ z ∈ r.2, z ≠ 0 := fun r hr => by
  obtain ⟨h1, h2, h3⟩ := hw r hr
  exact ⟨⟨fun z hz' => by have := h1 z hz'; unfold OkZ at this; omega, h2, h3⟩, fun z hz' => (h1 z hz').1⟩
 have HB := Lib.hid (fun V (h : KeepB b w V) => hK.keep hv.2 hbt h)
 have TB := Lib.hid (fun V (h : KeepB b w V) => hT.keep hb0 h)
 have PU := Lib.hid (purs_any T0 w hv hbt (SpTo.consA hsp) hK hms hlit (fun r hr => by obtain ⟨s, k, e, _⟩ := hz w (KeepB.refl _ _) r hr; exact ⟨s, k, e⟩))
 have LC := Lib.hid (bareC_length ms)
 have hall : ∀ l ∈ bareC ms, (∀ z ∈ l, OkZ vars z) ∧ l.Nodup ∧ l.length ≤ 1000 := fun l hl => by
  obtain ⟨r, hr, rfl⟩ := List.mem_map.1 hl
  exact hw r hr
 have HO := Lib.hid (show ∀ l ∈ bareC ms, ∀ z ∈ l, OkZ vars z from fun l hl => (hall l hl).1)
 have HN := Lib.hid (show ∀ l ∈ bareC ms, l.Nodup from fun l hl => (hall l hl).2.1)
 have HL := Lib.hid (show ∀ l ∈ bareC ms, l.length ≤ 1000 from fun l hl => (hall l hl).2.2)
 have HD := Lib.hid (show ∀ V, KeepB b w V → ∀ k, k < ms.length → ∃ g s kc, cs = some ⟨g, 0, none⟩ ∧ g < V.heap.size ∧ V.cell? ⟨g, k, none⟩ = some (.slice s ((bareC ms).getD k []).length kc) ∧ Ints V s ((bareC ms).getD k []) from fun V hV k hk => by
  obtain ⟨s, kc, e, hi, _⟩ := hz V hV ms[k] (List.getElem_mem hk)
  have hr := (HB.out V hV).rc
  rcases hr.2 with ⟨_, h0⟩ | ⟨g, cp, cur, hv, hb, hg, h5, h6, h7, h8⟩
  ·omega
  ·cases hv
   have e2 : (bareC ms).getD k [] = ms[k].2 := by simp [bareC, List.getD_eq_getElem?_getD, hk]
   refine ⟨g, s, kc, rfl, (Array.getElem?_eq_some_iff.1 hg).1, ?_, by rw [e2]; exact hi⟩
   have hc : V.cell? ⟨g, k, none⟩ = (hdC ms)[k]? := by
    rw [← h8, List.getElem?_take_of_lt (by omega)]
    simp [World.cell?, hg]
   rw [hc, e2, ← e]
   simp [hdC, hk])
 have HM := Lib.hid (show ms.length ≤ 64 * (ms.length / 64 + 1) ∧ ms.length / 64 + 1 ≤ 100000 by omega)
 have ST := Lib.hid (fun (z : Int) (z1 : -96 ≤ z) (z2 : z ≤ 96) (lb c : Nat) (L : List Int) (ws : List (BitVec 64)) (W : World) (h1 : KeepB b w W) (h2 : LAt W lb L) (h3 : WAt W c ws) (h4 : L.length = ms.length) (h5 : ws.length = ms.length / 64 + 1) (h6 : lb ≠ c) (h7 : w.heap.size ≤ lb) (h8 : w.heap.size ≤ c) (h9 : ∀ q, q < ms.length → -1000000 ≤ L.getD q 0 ∧ L.getD q 0 ≤ 1000000) => strike_book z z1 z2 HB.out h1 h2 h3 h4 h5 rfl hms h6 h7 h8 HM.out.1 h9)
 have HR := Lib.hid (show resF (bareC ms) (97 - (T0 ++ ([] : List Int)).length) (T0 ++ []) = resF (bareC ms) (97 - T0.length) T0 by simp)
 have VV := Lib.hid hv
 have SS := Lib.hid hsp
 have LM := hms
 clear hK hv hsp hw hall hlit hz hT hms
 generalize resF (bareC ms) (97 - T0.length) T0 = R at *
 generalize bareC ms = css at *
 generalize ms.length = n at *
 generalize n / 64 + 1 = m at *
 go_enter Tryz.func222, Tryz.ntmps222
 go_wp2_with fail
 refine PU.out.mono ?_
 rintro e w1 ⟨lb, c, rfl, L0, ws0, G0⟩
 have S0 : Hid (FN w b w1.heap.size lb c) := ⟨hblt, G0.bel.size, G0.hl, G0.hc, fun e => by have := G0.lf.lt; omega, fun e => by have := G0.wf.lt; omega, G0.ne⟩
 have F0 : Hid (FS d bt fh w b w1.heap.size bb lb c n m vars css R T0 [] L0 ws0 (.slice none 0 0) (w1.alloc (.cells #[.pointer (some ⟨bb, 0, none⟩), .slice (some ⟨lb, 0, none⟩) n n, .slice (some ⟨c, 0, none⟩) m m] 285))) := by
  have ba := bA0 w1 (.cells #[.pointer (some ⟨bb, 0, none⟩), .slice (some ⟨lb, 0, none⟩) n n, .slice (some ⟨c, 0, none⟩) m m] 285)
  exact ⟨by rw [List.append_nil]; exact (VV.out.below (G0.bel)).below ba, by rw [List.append_nil]; exact SS.out, G0.lf.kept (ba.block lb G0.lf.lt), G0.wf.kept (ba.block c G0.wf.lt), G0.ln, G0.mn, by rw [List.append_nil]; exact G0.pi, G0.out, new_at _ _, ⟨rfl, .inl ⟨rfl, rfl⟩⟩, (Only.of_below G0.bel).trans (Only.of_below ba), HR.out⟩
 have FI := Lib.hid (fun (L : List Int) (ws : List (BitVec 64)) (W : World) (h : FP w b w1.heap.size bb lb c n m L ws W) (hm : ws.length = m) => first_y c m ws W h.wf hm HM.out.2 (TB.out W h.on.keepB))
 have C0 := Lib.hid (FI.out _ _ _ F0.out.fp F0.out.mn)
 clear G0 PU VV SS HR
 go_wp2_with fail
 refine C0.out.mono ?_
 rintro e w2 ⟨y0, rfl, FV0, rfl⟩
 clear C0
 generalize w1.alloc (.cells #[.pointer (some ⟨bb, 0, none⟩), .slice (some ⟨lb, 0, none⟩) n n, .slice (some ⟨c, 0, none⟩) m m] 285) = wA at *
 generalize w1.heap.size = pb at *
 go_wp2
 go_loopg [7, 8] (muF m (T0 ++ ([] : List Int)).length ws0) (fun g v a wr => ∃ (y : Int) (fl L : List Int) (ws : List (BitVec 64)), a = .int .i64 y ∧ Hid (FsV ws y) ∧ Hid (FS d bt fh w b pb bb lb c n m vars css R T0 fl L ws v wr) ∧ Hid (g = muF m (T0 ++ fl).length ws))
 case atStart => exact ⟨y0, [], L0, ws0, rfl, FV0, F0, rfl⟩
 case round =>
  obtain ⟨y, fl, L, ws, rfl, FV, G1, HG⟩ := hrel
  clear F0 FV0
  obtain ⟨vs, vk, rfl⟩ := own_v G1.out.row
  rcases FV.out with ⟨p, hy, hp64, hbit, hfst⟩ | ⟨hy, hnone⟩
  ·subst hy
   have hpn : p < n := by
    rcases Nat.lt_or_ge p n with h | h
    ·exact h
    ·have := G1.out.out p h; rw [hbit] at this; cases this
   have hpc : p < css.length := by rw [LC.out]; exact hpn
   have hpm : p < 64 * m := by rw [← G1.out.mn]; exact hp64
   obtain ⟨g, s, kc, hcs, hg, hcell, hints⟩ := HD.out wr G1.out.on.keepB p hpn
   subst hcs
   have hmem : css.getD p [] ∈ css := by simp [List.getD_eq_getElem?_getD, hpc]
   have hlen := HL.out _ hmem
   have PS := Lib.hid (pas_any b (T0 ++ fl) s kc (css.getD p []) wr G1.out.va (SpTo.consA G1.out.sp) (by unfold maxLen; omega) (fun z hz => by have := HO.out _ hmem z hz; unfold OkZ at this; omega) hints)
   have hKB := (HB.out wr G1.out.on.keepB).facts
   have hbb := hKB.1
   have hbc := hKB.2.1
   obtain ⟨x0, x1, x2, x3⟩ := G1.out.box.facts
   have hpne : ((p : Int) == -1) = false := beq_eq_false_iff_ne.2 (by omega)
   have hpI : (p : Int) < (n : Int) := by omega
   have hp0 : (0 : Int) ≤ (p : Int) := by omega
   have HFL := Lib.hid (show fl.length ≤ 96 from by have := G1.out.sp.short hv1; rw [List.length_append] at this; omega)
   have NFL := Lib.hid (show (nfl (T0 ++ fl) (css.getD p [])).length < 2 from G1.out.pi.few hpc hbit)
   have WR := Lib.hid (fun (h0 : nfl (T0 ++ fl) (css.getD p []) = []) => G1.out.wrong hv1 hpc hfst h0)
   have HBIT := Lib.hid hbit
   have HFST := Lib.hid hfst
   clear hKB hints hbit hlen hfst FV
   generalize hFn : fl.length = fn at *
   have HFN := Lib.hid hFn
   clear hFn
   generalize (css.getD p []).length = ln at *
   go_wp2_with fail
   refine PS.out.mono ?_
   rintro e wq ⟨last, count, rfl, HPs, rfl⟩
   clear PS hcell hbc hbb
   rcases HPs.out with ⟨e0, h1, h2⟩ | ⟨e1, h2⟩ | ⟨e2, _⟩
   ·subst h1
    subst h2
    have E := Lib.hid (WR.out e0)
    have PO : Hid (wq.ownsRow w.heap.size 2 1 (.slice vs fn vk) fl.length (valsZ fl)) := G1.out.row
    have P2 := Lib.hid (And.intro G1.out.on G1.out.va)
    clear G1 HG HPs HB TB LC HO HN HL HD HM ST FI S0 WR NFL HBIT HFST e0
    go_wp2
    go_ret2
    exact ⟨_, fl, by rw [E.out]; rfl, by rw [E.out], PO.out, P2.out.1, by rw [E.out]; exact P2.out.2⟩
   ·subst h2
    have okz := HO.out _ hmem last (nfl_mem e1).1
    have HZ := Lib.hid okz
    have hz96 : -96 ≤ last ∧ last ≤ 96 := by unfold OkZ at okz; omega
    have MD := Lib.hid (mdrop_any c ws m p wq G1.out.wf G1.out.mn (by omega) (by omega))
    have HE1 := Lib.hid e1
    clear e1 HPs WR NFL okz
    go_wp2_with fail
    refine MD.out.mono ?_
    rintro e w3 ⟨rfl, hw3, o3⟩
    have hbc2 : b ≠ c := by have := S0.out.hb; have := S0.out.hc; omega
    have P3 := Lib.hid (G1.out.fp.mark S0.out o3 hw3)
    have V3 := Lib.hid (G1.out.va.kept (o3.block b G1.out.va.lt hbc2))
    have R3 := Lib.hid (G1.out.fp.row_mark G1.out.row o3)
    have OF := Lib.hid (of_any b (T0 ++ fl) last w3 V3.out (SpTo.consA G1.out.sp) hz96.1 hz96.2)
    clear MD hw3 o3 x0 x1 x2 x3
    by_cases h0 : val (T0 ++ fl) last = 0
    ·rw [h0] at OF
     obtain ⟨nz1, nz2⟩ := val_zero h0
     have PT := Lib.hid (put_any b (T0 ++ fl) last w3 V3.out hz96.1 hz96.2 HZ.out.1 nz1 nz2)
     have H0 := Lib.hid h0
     have NZ := Lib.hid (And.intro nz1 nz2)
     clear h0 nz1 nz2
     go_wp2_with fail
     refine OF.out.mono ?_
     rintro e w4 ⟨rfl, rfl⟩
     clear OF
     go_wp2_with fail
     refine PT.out.mono ?_
     rintro e w5 ⟨rfl, hva, i, u, hset⟩
     have P5 : Hid (FP w b pb bb lb c n m L (dropM ws p) w5) := by
      show FP _ _ _ _ _ _ _ _ _ _ _
      rw [hset]; exact P3.out.vals S0.out i u
     have R5 : Hid (w5.ownsRow w.heap.size 2 1 (.slice vs fn vk) fl.length (valsZ fl)) := by
      have := ownsRow_setCell_below R3.out (a := ⟨b, i, none⟩) hblt u
      show World.ownsRow _ _ _ _ _ _ _
      rw [hset]; exact this
     have hs5 := P5.out.on.size
     obtain ⟨v9, w9, ha, ow, gr, hj⟩ := appZ (own_below R5.out (bA0 w5 (.cells #[.int .i64 last] 2))) 1 (ints_new w5 last) (by simp; omega) (by have := HFL.out; rw [HFN.out]; simp; omega)
     have P9 := Lib.hid ((P5.out.below (bA0 w5 (.cells #[.int .i64 last] 2))).grown (own_below R5.out (bA0 w5 (.cells #[.int .i64 last] 2))) gr)
     have V9 : Hid (VAt d bt fh w9 b (T0 ++ fl ++ [last])) := by
      refine (hva.below (bA0 w5 (.cells #[.int .i64 last] 2))).kept (gr.block b (by simp; omega) (fun e => ?_))
      have := (R5.out.lt b e.symm).1
      omega
     obtain ⟨s9, k9, rfl⟩ := own_v ow
     have OW := Lib.hid ow
     have ha' := ha 34
     have LOW : ∀ q, q < n → -1000000 ≤ L.getD q 0 ∧ L.getD q 0 ≤ 1000000 := fun q hq => by
      have hq' : q < css.length := by rw [LC.out]; exact hq
      have h1 : L.getD q 0 = ((nfl (T0 ++ fl) (css.getD q [])).length : Int) := G1.out.pi.left q hq'
      have h2 := HL.out (css.getD q []) (by simp [List.getD_eq_getElem?_getD, hq'])
      have h3 : (nfl (T0 ++ fl) (css.getD q [])).length ≤ (css.getD q []).length := List.length_filter_le _ _
      omega
     have SKc := Lib.hid (ST.out (-last) (by omega) (by omega) lb c L (dropM ws p) w9 P9.out.on.keepB P9.out.lf P9.out.wf G1.out.ln (by rw [dropM_len]; exact G1.out.mn) S0.out.n3 S0.out.hl S0.out.hc LOW)
     obtain ⟨x0, x1, x2, x3⟩ := P9.out.box.facts
     have hwz : wrap64 (-last) = -last := wrap_in _ ⟨by omega, by omega⟩
     clear hva hset gr hj ow ha LOW PT P3 V3 R3 P5 R5
     generalize hL9 : (fl ++ [last]).length = n9 at *
     have HL9 := Lib.hid hL9
     clear hL9
     go_wp2_with (at_builtin; refine Lib.wpList_append_run _ rfl _ _ _ _ rfl _ _ rfl rfl _ _ ha' ?_)
     refine SKc.out.mono ?_
     rintro e w10 ⟨rfl, Lk, wk, ⟨l1, l2, l3, l4⟩, f2, f3, f4⟩
     have P10 := Lib.hid (P9.out.two S0.out f4 l1 l2)
     have hbl2 : b ≠ lb := by have := S0.out.hb; have := S0.out.hl; omega
     have hAs := List.append_assoc T0 fl [last]
     have F10 : Hid (FS d bt fh w b pb bb lb c n m vars css R T0 (fl ++ [last]) Lk wk (.slice s9 n9 k9) w10) :=
      ⟨by rw [← hAs]; exact V9.out.kept (f4.block b V9.out.lt hbl2 hbc2), by rw [← hAs]; exact G1.out.sp.add HZ.out NZ.out.1 NZ.out.2, l1, l2, l3, l4,
       by
        rw [← hAs]
        refine G1.out.pi.step HN.out (SpTo.consA G1.out.sp) hpc HZ.out.1 HE1.out H0.out (fun q hq => f2 q (by rw [← LC.out]; exact hq)) (fun q hq => ?_)
        have hqn : q < n := by rw [← LC.out]; exact hq
        rw [f3 q, dropM_bit G1.out.mn hpm q]
        simp only [hqn, true_and],
       fun q hq => by
        rw [f3 q, if_neg (fun r => by omega), dropM_bit G1.out.mn hpm q, G1.out.out q hq]
        simp, P10.out.box, P9.out.row_two (by rw [HL9.out]; exact OW.out) f4, P10.out.on, G1.out.follows hv1 hpc HFST.out HZ.out.1 HE1.out H0.out⟩
     have MU := Lib.hid (show muF m (T0 ++ (fl ++ [last])).length wk < gk from by
      have h1 := G1.out.sp.short hv1
      have h2 := muF_push (m := m) (k := (T0 ++ fl).length) ws wk (by omega)
      rw [HG.out]
      have h3 : (T0 ++ (fl ++ [last])).length = (T0 ++ fl).length + 1 := by simp; omega
      rw [h3]; exact h2)
     have C10 := Lib.hid (FI.out _ _ _ P10.out l4)
     clear x0 x1 x2 x3 l1 l2 l3 f2 f3 f4 hAs
     obtain ⟨x0, x1, x2, x3⟩ := P10.out.box.facts
     clear P9 V9 OW SKc G1 HG HZ HE1 NZ H0 HB TB LC HO HN HL HD HM ST FI S0 HBIT HFST
     go_wp2_with fail
     refine C10.out.mono ?_
     rintro e w11 ⟨y1, rfl, FV1, rfl⟩
     clear C10
     go_wp2
     go_roundg (muF m (T0 ++ (fl ++ [last])).length wk)
     case measure => exact MU.out
     case rel => exact ⟨y1, fl ++ [last], Lk, wk, rfl, FV1, F10, rfl⟩
    ·have hv0 : (val (T0 ++ fl) last == 0) = false := beq_eq_false_iff_ne.2 h0
     have F3 : Hid (FS d bt fh w b pb bb lb c n m vars css R T0 fl L (dropM ws p) (.slice vs fn vk) w3) :=
      ⟨V3.out, G1.out.sp, P3.out.lf, P3.out.wf, G1.out.ln, by rw [dropM_len]; exact G1.out.mn, G1.out.pi.calmed HE1.out h0 (fun q _ => dropM_bit G1.out.mn hpm q), fun q hq => by
       rw [dropM_bit G1.out.mn hpm q, G1.out.out q hq]; simp, P3.out.box, R3.out, P3.out.on, G1.out.run⟩
     have MU := Lib.hid (show muF m (T0 ++ fl).length (dropM ws p) < gk from by
      rw [HG.out]; exact muF_drop hpm HBIT.out (dropM_bit G1.out.mn hpm))
     have C10 := Lib.hid (FI.out _ _ _ P3.out (by rw [dropM_len]; exact G1.out.mn))
     obtain ⟨x0, x1, x2, x3⟩ := P3.out.box.facts
     clear V3 R3 P3 G1 HG HZ HE1 HB TB LC HO HN HL HD HM ST FI S0 HBIT HFST h0
     generalize val (T0 ++ fl) last = xv at *
     go_wp2_with fail
     refine OF.out.mono ?_
     rintro e w4 ⟨rfl, rfl⟩
     clear OF
     go_wp2_with fail
     refine C10.out.mono ?_
     rintro e w11 ⟨y1, rfl, FV1, rfl⟩
     clear C10
     go_wp2
     go_roundg (muF m (T0 ++ fl).length (dropM ws p))
     case measure => exact MU.out
     case rel => exact ⟨y1, fl, L, dropM ws p, rfl, FV1, F3, rfl⟩
   ·exact absurd NFL.out (by omega)
  ·subst hy
   have E := Lib.hid (G1.out.calm hv1 hnone)
   have PO : Hid (wr.ownsRow w.heap.size 2 1 (.slice vs fl.length vk) fl.length (valsZ fl)) := G1.out.row
   have P2 := Lib.hid (And.intro G1.out.on G1.out.va)
   clear G1 HG FV hnone HB TB LC HO HN HL HD HM ST FI S0
   generalize hFn : fl.length = fn at *
   have HFN := Lib.hid hFn
   clear hFn
   go_wp2
   go_ret2
   exact ⟨_, fl, by rw [E.out]; rfl, by rw [E.out], by rw [HFN.out]; exact PO.out, P2.out.1, by rw [E.out]; exact P2.out.2⟩
end Go.Proofs.YtnihhbfgbilimaaGreatDoor
