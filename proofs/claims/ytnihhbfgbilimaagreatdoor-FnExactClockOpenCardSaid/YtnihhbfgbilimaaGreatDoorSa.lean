import Derived.Test.YtnihhbfgbilimaaGreatDoorPw
import Derived.Test.YtnihhbfgbilimaaGreatDoorZPp
import Derived.Test.YtnihhbfgbilimaaGreatDoorZWa
import Derived.Test.YtnihhbfgbilimaaGreatDoorZJa
import Derived.Recover
import Derived.Laws.CopyOwn
namespace Go.Proofs.YtnihhbfgbilimaaGreatDoor
open Go.RowKit
set_option linter.unusedVariables false
variable {fh : List Value}
set_option maxRecDepth 100000 in
set_option maxHeartbeats 1000000 in
theorem fo_any (b V : Nat) (tr : List Int) (w : World) (hv : VAt 6 212 fh w b tr) (hc : Cons tr) (hV : V ≤ 96) :
  Calls Tryz.prog 197 #[.pointer (some ⟨b, 6, none⟩), .int .i64 (V : Int)] w fun e w' => e = .returned (.int .i64 (opn tr V 1 : Nat)) ∧ w' = w := by
 have OF := Lib.hid (show ∀ k : Nat, k ≤ V → Calls Tryz.prog 224 #[.pointer (some ⟨b, 6, none⟩), .int .i64 (k : Int)] w fun e w' => e = .returned (.int .i64 (val tr (k : Int))) ∧ w' = w from fun k hk => of_any b tr k w hv hc (by omega) (by omega))
 have ON := Lib.hid (fun n k => @opn_no tr n k)
 have OY := Lib.hid (fun n k => @opn_yes tr n k)
 have OZ := Lib.hid (show ∀ k, opn tr 0 k = 0 from fun _ => rfl)
 clear hv hc
 generalize hR : opn tr V 1 = R at *
 have R0 := Lib.hid hR
 clear hR
 go_enter Tryz.func197, Tryz.ntmps197
 go_wp2
 go_loopw [5] (fun i wr => ∃ k : Nat, i = .int .i64 (k + 1 : Nat) ∧ k ≤ V ∧ wr = w ∧ Hid (opn tr (V - k) (k + 1) = R)) (fun i _ => V + 1 - (intOf i).toNat)
 case atStart => exact ⟨0, rfl, Nat.zero_le _, rfl, R0⟩
 case round =>
  obtain ⟨k, rfl, hk, rfl, H⟩ := hrel
  by_cases h1 : k + 1 ≤ V
  ·have h1' : ((k + 1 : Nat) : Int) ≤ (V : Int) := by omega
   have C := Lib.hid (OF.out (k + 1) h1)
   by_cases hz : val tr ((k + 1 : Nat) : Int) = 0
   ·have E := Lib.hid (OY.out (V - k) (k + 1) (by omega) hz)
    rw [hz] at C
    have RE := Lib.hid (E.out.symm.trans H.out)
    clear hz OF ON OY OZ E H
    go_wp2_with fail
    refine C.out.mono ?_
    rintro e w1 ⟨rfl, rfl⟩
    go_wp2
    go_ret
    exact ⟨by rw [← RE.out]; rfl, rfl⟩
   ·have E := Lib.hid (ON.out (V - k) (k + 1) (by omega) hz)
    have hz' : (val tr ((k + 1 : Nat) : Int) == 0) = false := by simpa using hz
    clear ON OY OZ OF
    have RE : Hid (opn tr (V - (k + 1)) (k + 1 + 1) = R) := by
     show _ = _
     rw [← H.out, E.out, Nat.sub_sub]
    generalize val tr ((k + 1 : Nat) : Int) = y at *
    clear E H
    go_wp2_with fail
    refine C.out.mono ?_
    rintro e w1 ⟨rfl, rfl⟩
    go_wp2
    go_roundw
    case rel => exact ⟨k + 1, by go_num, by omega, by trivial, RE⟩
    case measure => simp [intOf]; omega
  ·have h1' : ¬ ((k + 1 : Nat) : Int) ≤ (V : Int) := by omega
   have RE : Hid (0 = R) := by
    show _ = _
    have e := OZ.out (k + 1)
    rw [← H.out, show V - k = 0 by omega, e]
   clear OF ON OY OZ H
   go_wp2
   go_ret
   exact ⟨by rw [← RE.out]; rfl, rfl⟩
set_option maxRecDepth 100000 in
set_option maxHeartbeats 2000000 in
theorem tv_any (b V : Nat) (tr : List Int) (w : World) (hv : VAt 6 212 fh w b tr) (hc : Cons tr) (hV : V ≤ 96) :
  Calls Tryz.prog 198 #[.pointer (some ⟨b, 6, none⟩), .int .i64 (V : Int)] w fun e w' => ∃ v, e = .returned v ∧ w'.ownsRow w.heap.size 2 1 v (trL tr V).length (valsZ (trL tr V)) ∧ Below w.heap.size w w' := by
 obtain ⟨i0, hi0, hz0, hz1, hz2⟩ := info_parts info2'
 have OF := Lib.hid (show ∀ (W : World) (k : Nat), Below w.heap.size w W → k ≤ V → Calls Tryz.prog 224 #[.pointer (some ⟨b, 6, none⟩), .int .i64 (k : Int)] W fun e w' => e = .returned (.int .i64 (val tr (k : Int))) ∧ w' = W from fun W k hW hk => of_any b tr k W (hv.below hW) hc (by omega) (by omega))
 have TN := Lib.hid (fun n => @trL_no tr n)
 have TY := Lib.hid (fun n => @trL_yes tr n)
 have TL := Lib.hid (trL_len tr)
 have T0 := Lib.hid (show trL tr 0 = [] from rfl)
 clear hv hc
 go_enter Tryz.func198, Tryz.ntmps198
 go_wp2
 go_loopw [5, 6] (fun v i wr => ∃ k : Nat, i = .int .i64 (k + 1 : Nat) ∧ k ≤ V ∧ Hid (wr.ownsRow w.heap.size 2 1 v (trL tr k).length (valsZ (trL tr k))) ∧ Hid (Below w.heap.size w wr)) (fun _ i _ => V + 1 - (intOf i).toNat)
 case atStart => exact ⟨0, rfl, Nat.zero_le _, ⟨rfl, .inl ⟨rfl, rfl⟩⟩, Below.refl _ _⟩
 case round =>
  obtain ⟨k, rfl, hk, H1, H2⟩ := hrel
  obtain ⟨vs, vc, rfl⟩ := own_v H1.out
  have hsz := H2.out.size
  by_cases h1 : k + 1 ≤ V
  ·have h1' : ((k + 1 : Nat) : Int) ≤ (V : Int) := by omega
   have C := Lib.hid (OF.out wr (k + 1) H2.out h1)
   have hlen := TL.out k
   by_cases hz : val tr ((k + 1 : Nat) : Int) = 1
   ·have E := Lib.hid (TY.out k hz)
    rw [hz] at C
    clear hz OF TN TY TL
    have EV := Lib.hid (show valsZ (trL tr k) ++ [.int .i64 ((k : Int) + 1)] = valsZ (trL tr (k + 1)) by rw [E.out]; simp [valsZ])
    have EL := Lib.hid (show (trL tr k).length + 1 = (trL tr (k + 1)).length by rw [E.out]; simp)
    generalize hF : (trL tr k).length = fn at *
    clear hF
    go_wp2_with fail
    refine C.out.mono ?_
    rintro e w1 ⟨rfl, rfl⟩
    clear C
    go_wp2_with (first | (at_builtin; refine wpList_append_lies _ rfl (.tmp 16) (.tmp 18) 34 rfl w.heap.size 2 i0 (.int .i64 0) 1 8 Tryz.underlying34 hi0 hz0 hz1 hz2 rfl (by decide) _ _ _ rfl (H1.out.alloc _) ⟨w1.heap.size, 0, none⟩ 1 1 [.int .i64 ((k : Int) + 1)] rfl rfl (cell_one_new _ _ _) (by intro u hu; simp at hu; subst hu; rfl) (by decide) (by unfold maxLen; omega) (by omega) (by simp; omega) (w1.heap.size + 1) (by simp) ?_))
    intro g9 cap9 w9 own9 grow9 hg9 hlt9
    have B9 := Lib.hid ((bA H2.out (.cells #[.int .i64 ((k : Int) + 1)] 2)).grown grow9 (by simp; omega) (fun j hj => (H1.out.lt j hj).1))
    rw [EV.out] at own9
    have N9 := Lib.hid own9
    clear own9 grow9 hg9 hlt9
    go_wp2
    go_roundw
    case rel => exact ⟨k + 1, by go_num, by omega, by rw [← EL.out]; exact N9, B9⟩
    case measure => simp [intOf]; omega
   ·have E := Lib.hid (TN.out k hz)
    have hz' : (val tr ((k + 1 : Nat) : Int) == 1) = false := by simpa using hz
    clear OF TN TY TL
    generalize val tr ((k + 1 : Nat) : Int) = y at *
    go_wp2_with fail
    refine C.out.mono ?_
    rintro e w1 ⟨rfl, rfl⟩
    go_wp2
    go_roundw
    case rel => exact ⟨k + 1, by go_num, by omega, by rw [E.out]; exact H1, H2⟩
    case measure => simp [intOf]; omega
  ·have h1' : ¬ ((k + 1 : Nat) : Int) ≤ (V : Int) := by omega
   have e : k = V := by omega
   subst e
   clear OF TN TY TL
   go_wp2
   go_ret
   exact ⟨_, rfl, H1.out, H2.out⟩
theorem VAt.fld {fh : List Value} {w : World} {b : Nat} {tr : List Int} (h : VAt 6 212 fh w b tr) (i : Nat) (hi : i < 6) : w.cell? ⟨b, i, none⟩ = fh[i]? := by
 have : w.cell? ⟨b, i, none⟩ = (fh ++ vL tr)[i]? := by simp [World.cell?, h.2]
 rw [this, List.getElem?_append_left (by rw [h.1]; exact hi)]
theorem VAt.setF {fh : List Value} {w : World} {b : Nat} {tr : List Int} (h : VAt 6 212 fh w b tr) (i : Nat) (hi : i < 6) (v : Value) : VAt 6 212 (fh.set i v) (w.setCell ⟨b, i, none⟩ v) b tr := by
 refine ⟨by rw [List.length_set]; exact h.1, ?_⟩
 have := heap_setCell_same w b i _ 212 v h.2
 rwa [List.setIfInBounds_toArray, List.set_append_left _ _ (by rw [h.1]; exact hi)] at this
theorem Bk.grown {B B' bb : Nat} {vc : Value} {hs : List Value} {ms : List LCl} {rows : Nat → List Nat} {W W' : World} (h : Bk B bb vc hs ms rows W) {e : TypeId} {m n : Nat} {v : Value} {xs : List Value} (ho : W.ownsRow B' e m v n xs) (he : e ≠ 241 ∧ e ≠ 289 ∧ e ≠ 3) (hg : W.grownBy W' v.ownBlock) : Bk B bb vc hs ms rows W' :=
 h.kept (fun k us t h1 _ e1 => (hg.block k (Array.getElem?_eq_some_iff.1 e1).1 (fun e' => by
  obtain ⟨cur, h2⟩ := own_kind ho e'.symm
  rw [e1] at h2
  cases h2
  rcases h1 with h1 | h1 | h1
  ·exact he.1 h1
  ·exact he.2.1 h1
  ·exact he.2.2 h1)).trans e1)
theorem owc_keep {w W : World} {B : Nat} {v : Value} {cs : List LCl} (h : OwC w B v cs) (hk : ∀ k us t, (t = 34 ∨ t = 2) → B ≤ k → w.heap[k]? = some (.cells us t) → W.heap[k]? = some (.cells us t)) : OwC W B v cs :=
 ⟨own_typed h.row (fun k us hB e => hk k us _ (.inl rfl) hB e), fun r hr => own_typed (h.each r hr) (fun k us hB e => hk k us _ (.inr rfl) hB e), h.diff⟩
theorem OnlyK.typed {B : Nat} {u v : World} (h : OnlyK B u v) {k : Nat} {us : Array Value} {t : TypeId} (e : u.heap[k]? = some (.cells us t)) (ht : t ≠ 241 ∧ t ≠ 289 ∧ t ≠ 3) : v.heap[k]? = some (.cells us t) :=
 h.block k _ e (.inr fun us' t' e' => by cases e'; exact ht)
structure Sol (w w0 : World) (b : Nat) (V bud st : Int) (ms ls : List LCl) (D tr : List Int) (vc vl vd : Value) (W : World) : Prop where
 blk : VAt 6 212 (SF V bud st vc vl vd) W b tr
 bk : ∃ bb vr hs, vc = .pointer (some ⟨bb, 0, none⟩) ∧ Bk w.heap.size bb vr hs ms (occI (bareC ms)) W
 ol : OwC W w.heap.size vl ls
 od : W.ownsRow w.heap.size 2 1 vd D.length (valsZ D)
 da : ∀ r ∈ ls, ∀ j, r.1.ownBlock = some j → vd.ownBlock ≠ some j
 bl : Below w.heap.size w W
 hb : w.heap.size ≤ b
 kp : K30 w0 W
section
variable {w w0 : World} {b : Nat} {V bud st : Int} {ms ls : List LCl} {D tr : List Int} {vc vl vd : Value} {W W' : World}
theorem Sol.below (h : Sol w w0 b V bud st ms ls D tr vc vl vd W) (hb : Below W.heap.size W W') : Sol w w0 b V bud st ms ls D tr vc vl vd W' := by
 obtain ⟨bb, vr, hs, e, k⟩ := h.bk
 exact ⟨h.blk.below hb, ⟨bb, vr, hs, e, k.below hb⟩, h.ol.below hb, own_below h.od hb, h.da, bT h.bl hb, h.hb, h.kp.below hb⟩
theorem Sol.facts (h : Sol w w0 b V bud st ms ls D tr vc vl vd W) : b < W.heap.size ∧ W.cell? ⟨b, 0, none⟩ = some (.int .i64 V) ∧ W.cell? ⟨b, 1, none⟩ = some (.int .i64 bud) ∧ W.cell? ⟨b, 2, none⟩ = some (.int .i64 st) ∧ W.cell? ⟨b, 3, none⟩ = some vc ∧ W.cell? ⟨b, 4, none⟩ = some vl ∧ W.cell? ⟨b, 5, none⟩ = some vd ∧ ∀ k, W.frozen? ⟨b, k, none⟩ = false :=
 ⟨h.blk.lt, h.blk.fld 0 (by omega), h.blk.fld 1 (by omega), h.blk.fld 2 (by omega), h.blk.fld 3 (by omega), h.blk.fld 4 (by omega), h.blk.fld 5 (by omega), fun k => h.blk.frozen k⟩
theorem Sol.bkOnly (h : Sol w w0 b V bud st ms ls D tr vc vl vd W) (ho : Only b W W') : ∃ bb vr hs, vc = .pointer (some ⟨bb, 0, none⟩) ∧ Bk w.heap.size bb vr hs ms (occI (bareC ms)) W' := by
 obtain ⟨bb, vr, hs, e, k⟩ := h.bk
 exact ⟨bb, vr, hs, e, k.only ho h.blk.2 (by decide)⟩
theorem Sol.step (h : Sol w w0 b V bud st ms ls D tr vc vl vd W) (x : Int) : Sol w w0 b V bud x ms ls D tr vc vl vd (W.setCell ⟨b, 2, none⟩ (.int .i64 x)) :=
 ⟨h.blk.setF 2 (by omega) _, h.bkOnly ((Only.refl b W).setCell 2 _), owc_box h.ol h.blk.2 (by decide) (by decide) _ _, own_box h.od h.blk.2 (by decide) _ _, h.da, h.bl.setCell (p := ⟨b, 2, none⟩) h.hb _, h.hb, h.kp.set h.blk.2 (by decide) _ _⟩
theorem Sol.vals (h : Sol w w0 b V bud st ms ls D tr vc vl vd W) {tr' : List Int} (ho : Only b W W') (hv : VAt 6 212 (SF V bud st vc vl vd) W' b tr') : Sol w w0 b V bud st ms ls D tr' vc vl vd W' :=
 ⟨hv, h.bkOnly ho, owc_only h.ol ho h.blk.2 (by decide) (by decide), own_only h.od ho h.blk.2 (by decide), h.da, Only.below h.bl h.hb ho, h.hb, h.kp.only ho h.blk.2 (by decide)⟩
theorem Sol.slot (h : Sol w w0 b V bud st ms ls D tr vc vl vd W) {e : TypeId} {m n B : Nat} {v : Value} {xs : List Value} (hv : W.ownsRow B e m v n xs) (he : e ≠ 212) (hg : W.grownBy W' v.ownBlock) : VAt 6 212 (SF V bud st vc vl vd) W' b tr :=
 h.blk.kept (hg.block b h.blk.lt (fun e' => by
  obtain ⟨cur, hc⟩ := own_kind hv e'.symm
  rw [h.blk.2] at hc
  cases hc
  exact he rfl))
theorem Sol.bkGrown (h : Sol w w0 b V bud st ms ls D tr vc vl vd W) {e : TypeId} {m n B : Nat} {v : Value} {xs : List Value} (hv : W.ownsRow B e m v n xs) (he : e ≠ 241 ∧ e ≠ 289 ∧ e ≠ 3 ∧ e ≠ 212) (hg : W.grownBy W' v.ownBlock) (i : Nat) (u : Value) : ∃ bb vr hs, vc = .pointer (some ⟨bb, 0, none⟩) ∧ Bk w.heap.size bb vr hs ms (occI (bareC ms)) (W'.setCell ⟨b, i, none⟩ u) := by
 obtain ⟨bb, vr, hs, e1, k⟩ := h.bk
 have bk := h.slot hv he.2.2.2 hg
 exact ⟨bb, vr, hs, e1, (k.grown hv ⟨he.1, he.2.1, he.2.2.1⟩ hg).only ((Only.refl b W').setCell i u) bk.2 (by decide)⟩
theorem Sol.decide (h : Sol w w0 b V bud st ms ls D tr vc vl vd W) {D' : List Int} {vd' : Value} (hg : W.grownBy W' vd.ownBlock) (ho : W'.ownsRow w.heap.size 2 1 vd' D'.length (valsZ D')) (hn : ∀ j, vd'.ownBlock = some j → vd.ownBlock = some j ∨ j = W.heap.size) :
  Sol w w0 b V bud st ms ls D' tr vc vl vd' (W'.setCell ⟨b, 5, none⟩ vd') := by
 have bk := h.slot h.od (by decide) hg
 have lr : ∀ r ∈ ls, W'.ownsRow w.heap.size 2 1 r.1 r.2.length (valsZ r.2) := fun r hr => (h.ol.each r hr).kept hg (by
  rcases hj : r.1.ownBlock with _ | j
  ·exact .inl rfl
  ·exact .inr (fun e => h.da r hr j hj e.symm))
 have oc : OwC W' w.heap.size vl ls := ⟨h.ol.row.kept hg (own_diff h.ol.row h.od (by decide)), lr, h.ol.diff⟩
 refine ⟨bk.setF 5 (by omega) _, h.bkGrown h.od (by decide) hg _ _, owc_box oc bk.2 (by decide) (by decide) _ _, own_box ho bk.2 (by decide) _ _, fun r hr j hj e => ?_, (h.bl.grown hg h.bl.size (fun j hj => (h.od.lt j hj).1)).setCell (p := ⟨b, 5, none⟩) h.hb _, h.hb, (h.kp.grown h.od (by decide) hg).set bk.2 (by decide) _ _⟩
 rcases hn j e with e2 | e2
 ·exact h.da r hr j hj e2
 ·have := ((h.ol.each r hr).lt j hj).2
  omega
theorem Sol.pop (h : Sol w w0 b V bud st ms ls D tr vc vl vd W) {s : Option Addr} {k : Nat} (e : vd = .slice s D.length k) : Sol w w0 b V bud st ms ls D.dropLast tr vc vl (.slice s (D.length - 1) k) (W.setCell ⟨b, 5, none⟩ (.slice s (D.length - 1) k)) := by
 subst e
 have ho : W.ownsRow w.heap.size 2 1 (.slice s (D.length - 1) k) D.dropLast.length (valsZ D.dropLast) := by
  refine ⟨by simp [valsZ], ?_⟩
  rcases h.od.2 with ⟨h1, h0⟩ | ⟨g, cap, cur, hv, hg, hh, h1, h2, h3, h4⟩
  ·have : D = [] := List.eq_nil_of_length_eq_zero h0
   subst this
   cases h1
   exact .inl ⟨rfl, rfl⟩
  ·cases hv
   refine .inr ⟨g, k, cur, by simp, hg, hh, by simp; omega, h2, h3, ?_⟩
   have : valsZ D.dropLast = (valsZ D).take (D.length - 1) := by simp [valsZ, List.dropLast_eq_take]
   rw [this, ← h4, List.take_take, List.length_dropLast]
   congr 1
   omega
 have hs : (Value.slice s (D.length - 1) k).ownBlock = (Value.slice s D.length k).ownBlock := by cases s <;> rfl
 exact ⟨h.blk.setF 5 (by omega) _, h.bkOnly ((Only.refl b W).setCell 5 _), owc_box h.ol h.blk.2 (by decide) (by decide) _ _, own_box ho h.blk.2 (by decide) _ _, fun r hr j hj e => h.da r hr j hj (by rw [← hs]; exact e), h.bl.setCell (p := ⟨b, 5, none⟩) h.hb _, h.hb, h.kp.set h.blk.2 (by decide) _ _⟩
theorem Sol.lemma (h : Sol w w0 b V bud st ms ls D tr vc vl vd W) {r : LCl} {vl' : Value} (hr : W.ownsRow w.heap.size 2 1 r.1 r.2.length (valsZ r.2)) (hf : ∀ j, r.1.ownBlock = some j → (∀ s ∈ ls, s.1.ownBlock ≠ some j) ∧ vd.ownBlock ≠ some j) (hg : W.grownBy W' vl.ownBlock) (ho : W'.ownsRow w.heap.size 34 1 vl' (ls.length + 1) (hdC ls ++ [r.1])) :
  Sol w w0 b V bud st ms (ls ++ [r]) D tr vc vl' vd (W'.setCell ⟨b, 4, none⟩ vl') := by
 have bk := h.slot h.ol.row (by decide) hg
 have oc := h.ol.add (Below.refl _ _) hr (fun j hj s hs => (hf j hj).1 s hs) hg ho
 refine ⟨bk.setF 4 (by omega) _, h.bkGrown h.ol.row (by decide) hg _ _, owc_box oc bk.2 (by decide) (by decide) _ _, own_box (h.od.kept hg (own_diff h.od h.ol.row (by decide))) bk.2 (by decide) _ _, fun s hs j hj => ?_, (h.bl.grown hg h.bl.size (fun j hj => (h.ol.row.lt j hj).1)).setCell (p := ⟨b, 4, none⟩) h.hb _, h.hb, (h.kp.grown h.ol.row (by decide) hg).set bk.2 (by decide) _ _⟩
 rcases List.mem_append.1 hs with h1 | h1
 ·exact h.da s h1 j hj
 ·rw [List.mem_singleton.1 h1] at hj
  exact (hf j hj).2
theorem Sol.added (h : Sol w w0 b V bud st ms ls D tr vc vl vd W) {ms' : List LCl} (hk : OnlyK w.heap.size W W') (hn : ∃ bb vr hs, vc = .pointer (some ⟨bb, 0, none⟩) ∧ Bk w.heap.size bb vr hs ms' (occI (bareC ms')) W') : Sol w w0 b V bud st ms' ls D tr vc vl vd W' :=
 ⟨h.blk.kept ((hk.typed h.blk.2 (by decide)).trans h.blk.2.symm), hn, owc_keep h.ol (fun k us t ht _ e => hk.typed e (by rcases ht with rfl | rfl <;> decide)), own_typed h.od (fun k us _ e => hk.typed e (by decide)), h.da, h.bl.trans (hk.below h.bl.size), h.hb, fun k us e => hk.typed (h.kp k us e) (by decide)⟩
end
set_option maxRecDepth 100000 in
set_option maxHeartbeats 1000000 in
theorem push_any {w w0 : World} {b : Nat} {V bud st : Int} {ms ls : List LCl} {D tr : List Int} {vc vl vd : Value} (z : Int) (W : World) (h : Sol w w0 b V bud st ms ls D tr vc vl vd W) (hl : D.length ≤ 1000) :
  Calls Tryz.prog 199 #[.pointer (some ⟨b, 5, none⟩), .int .i64 z] W fun e w' => e = .returned (.tuple #[]) ∧ ∃ vd', Sol w w0 b V bud st ms ls (D ++ [z]) tr vc vl vd' w' := by
 obtain ⟨hlt, c0, c1, c2, c3, c4, c5, hf⟩ := h.facts
 have HA := h.below (bA0 W (.cells #[.int .i64 z] 2))
 obtain ⟨v9, w9, ha, ow, gr, hj⟩ := appZ HA.od 1 (ints_new W z) (by have := HA.bl.size; exact this) (by simp; omega)
 have bk := HA.slot HA.od (by decide) gr
 have q5 := bk.fld 5 (by omega)
 have f5 := bk.frozen 5
 have l5 := bk.lt
 have R := Lib.hid (HA.decide gr ow hj)
 have ha' := ha 34
 obtain ⟨ds, dk, rfl⟩ := own_v h.od
 obtain ⟨s9, k9, rfl⟩ := own_v ow
 dsimp only [List.getElem?_cons_succ, List.getElem?_cons_zero] at q5
 clear h HA hf c0 c1 c2 c3 c4 ha gr hj ow bk
 generalize D.length = fn at *
 generalize (D ++ [z]).length = fn9 at *
 go_enter Tryz.func199, Tryz.ntmps199
 go_wp2_with (at_builtin; refine Lib.wpList_append_run _ rfl _ _ _ _ rfl _ _ rfl rfl _ _ ha' ?_)
 go_end0
 exact ⟨rfl, _, R.out⟩
set_option maxRecDepth 100000 in
set_option maxHeartbeats 1000000 in
theorem pop_none {w w0 : World} {b : Nat} {V bud st : Int} {ms ls : List LCl} {D tr : List Int} {vc vl vd : Value} (W : World) (h : Sol w w0 b V bud st ms ls D tr vc vl vd W) (h0 : D.length = 0) :
  Calls Tryz.prog 196 #[.pointer (some ⟨b, 5, none⟩)] W fun e w' => e = .returned (.bool false) ∧ w' = W := by
 obtain ⟨hlt, c0, c1, c2, c3, c4, c5, hf⟩ := h.facts
 obtain ⟨ds, dk, rfl⟩ := own_v h.od
 rw [h0] at c5
 clear h hf c0 c1 c2 c3 c4
 go_enter Tryz.func196, Tryz.ntmps196
 go_wp2
 go_ret
 exact ⟨rfl, rfl⟩
set_option maxRecDepth 100000 in
set_option maxHeartbeats 1000000 in
theorem pop_some {w w0 : World} {b : Nat} {V bud st : Int} {ms ls : List LCl} {D tr : List Int} {vc vl vd : Value} (W : World) (h : Sol w w0 b V bud st ms ls D tr vc vl vd W) (h0 : ¬ D.length = 0) (hl : D.length ≤ 1000) :
  Calls Tryz.prog 196 #[.pointer (some ⟨b, 5, none⟩)] W fun e w' => e = .returned (.bool true) ∧ ∃ vd', Sol w w0 b V bud st ms ls D.dropLast tr vc vl vd' w' := by
 obtain ⟨hlt, c0, c1, c2, c3, c4, c5, hf⟩ := h.facts
 obtain ⟨ds, dk, rfl⟩ := own_v h.od
 have hk := own_cap8 h.od
 have R := Lib.hid ((h.pop rfl).below (below_drew' _))
 have f5 := hf 5
 obtain ⟨m, hm⟩ : ∃ m, D.length = m + 1 := ⟨D.length - 1, by omega⟩
 rw [hm, Nat.add_sub_cancel] at R
 rw [hm] at c5 hk hl
 clear h hf c0 c1 c2 c3 c4
 go_enter Tryz.func196, Tryz.ntmps196
 go_wp2
 go_region
 go_wp2
 go_ret
 exact ⟨rfl, _, R.out⟩
set_option maxRecDepth 100000 in
set_option maxHeartbeats 1000000 in
theorem spend_some {w w0 : World} {b : Nat} {V bud st : Int} {ms ls : List LCl} {D tr : List Int} {vc vl vd : Value} (W : World) (h : Sol w w0 b V bud st ms ls D tr vc vl vd W) (h0 : ¬ st = bud) (h1 : 0 ≤ st) (h2 : st ≤ 1000) :
  Calls Tryz.prog 193 #[.pointer (some ⟨b, 0, none⟩)] W fun e w' => e = .returned (.tuple #[]) ∧ Sol w w0 b V bud (st + 1) ms ls D tr vc vl vd w' := by
 obtain ⟨hlt, c0, c1, c2, c3, c4, c5, hf⟩ := h.facts
 have R := Lib.hid ((h.below (below_drew' W)).step (st + 1))
 have f2 := hf 2
 have h0' : (st == bud) = false := by simpa using h0
 have hw : wrap64 (st + 1) = st + 1 := wrap_in _ ⟨by omega, by omega⟩
 clear h hf c0 c3 c4 c5
 go_enter Tryz.func193, Tryz.ntmps193
 go_wp2
 go_region
 go_wp2
 go_end0
 exact ⟨rfl, R.out⟩
def thrown : List PanicEntry := [{ v := .iface 9 (.string { data := #[116, 104, 101, 32, 98, 117, 100, 103, 101, 116, 32, 105, 115, 32, 117, 115, 101, 100, 32, 117, 112] }), recovered := false }]
set_option maxRecDepth 100000 in
set_option maxHeartbeats 1000000 in
theorem spend_none {w w0 : World} {b : Nat} {V bud st : Int} {ms ls : List LCl} {D tr : List Int} {vc vl vd : Value} (W : World) (h : Sol w w0 b V bud st ms ls D tr vc vl vd W) (h0 : st = bud) :
  Calls Tryz.prog 193 #[.pointer (some ⟨b, 0, none⟩)] W fun e w' => e = .panicked thrown ∧ Sol w w0 b V bud st ms ls D tr vc vl vd w' := by
 obtain ⟨hlt, c0, c1, c2, c3, c4, c5, hf⟩ := h.facts
 have R := Lib.hid (h.below (below_drew' W))
 subst h0
 clear h hf c0 c3 c4 c5
 go_enter Tryz.func193, Tryz.ntmps193
 go_wp2
 go_region
 go_wp2
 exact ⟨rfl, rfl, R.out⟩
set_option maxRecDepth 100000 in
set_option maxHeartbeats 1000000 in
theorem told_any {w w0 : World} {b : Nat} {V bud st : Int} {ms ls : List LCl} {D tr : List Int} {vc vl vd : Value} (x : Int) (W : World) (h : Sol w w0 b V bud st ms ls D tr vc vl vd W) :
  Calls Tryz.prog 170 #[.pointer (some ⟨b, 0, none⟩), .int .i64 x] W fun e w' => e = .returned (.agg #[.int .i64 x, .slice none 0 0, vl, .int .i64 st, .int .i64 0]) ∧ Below W.heap.size W w' := by
 have HA := h.below (bA0 W (.cells #[.int .i64 0, .slice none 0 0, .slice none 0 0, .int .i64 0, .int .i64 0] 107))
 obtain ⟨hlt, c0, c1, c2, c3, c4, c5, hf⟩ := HA.facts
 obtain ⟨ls', lk, rfl⟩ := h.ol.v
 have hne : b ≠ W.heap.size := by have := h.facts.1; omega
 have hb := h.facts.1
 clear h hf c0 c1 c3 c5 HA
 go_enter Tryz.func170, Tryz.ntmps170
 go_wp2
 go_region
 go_wp2
 have nw := new_at W (.cells #[.int .i64 x, .slice none 0 0, .slice ls' ls.length lk, .int .i64 st, .int .i64 0] 107)
 have BB := Lib.hid ((bA0 W (.cells #[.int .i64 x, .slice none 0 0, .slice ls' ls.length lk, .int .i64 st, .int .i64 0] 107)).drew)
 generalize W.alloc (.cells #[.int .i64 x, .slice none 0 0, .slice ls' ls.length lk, .int .i64 st, .int .i64 0] 107) = W1 at *
 obtain ⟨e0, e1, e2, e3, e4⟩ := cells5 nw
 exact bodyPost_ret (v := .agg #[.int .i64 x, .slice none 0 0, .slice ls' ls.length lk, .int .i64 st, .int .i64 0]) (by simp [results, Tryz.results170, go_sem, e0, e1, e2, e3, e4]) rfl ⟨rfl, BB.out⟩
theorem own_ne {W : World} {B : Nat} {s : Option Addr} {n k : Nat} {D : List Int} {b : Nat} {us : Array Value} (h : W.ownsRow B 2 1 (.slice s n k) D.length (valsZ D)) (hx : W.heap[b]? = some (.cells us 212)) : D = [] ∨ ∃ c o, s = some ⟨c, o, none⟩ ∧ IntsAt W c o D ∧ c ≠ b := by
 obtain ⟨s', k', e, hi⟩ := own_ints h
 cases e
 rcases hi with hi | ⟨c, o, rfl, hi⟩
 ·exact .inl hi
 ·by_cases hD : D = []
  ·exact .inl hD
  ·refine .inr ⟨c, o, rfl, hi, fun e => ?_⟩
   subst e
   obtain ⟨cur, hc⟩ := own_kind h (j := c) (by
    rcases h.2 with ⟨_, h0⟩ | ⟨g, cap, cur, hv, _⟩
    ·exact absurd (List.eq_nil_of_length_eq_zero h0) hD
    ·cases hv; rfl)
   rw [hx] at hc
   cases hc
theorem Sol.cls {w w0 : World} {b : Nat} {V bud st : Int} {ms ls : List LCl} {D tr : List Int} {vc vl vd : Value} {W : World} (h : Sol w w0 b V bud st ms ls D tr vc vl vd W) (hms : ∀ r ∈ ms, ClIn w r ∨ r ∈ ls) (W' : World) (ho : KeepB b W W') : ∀ r ∈ ms, ClIn W' r := by
 have r2 : OwC W' w.heap.size vl ls := owc_keep h.ol (fun k us t ht _ e => (ho.2 k (Array.getElem?_eq_some_iff.1 e).1 (fun e' => by
  rw [e', h.blk.2] at e
  cases e
  rcases ht with h1 | h1
  ·cases h1
  ·cases h1)).trans e)
 obtain ⟨s2, k2, _, hc⟩ := r2.cls
 intro r hr
 rcases hms r hr with h1 | h1
 ·have hsz := h.bl.size
  exact h1.kept (Nat.le_trans hsz ho.1) (fun k hk => (ho.2 k (by omega) (by have := h.hb; omega)).trans (h.bl.block k hk))
 ·exact hc.each r h1
set_option maxRecDepth 100000 in
set_option maxHeartbeats 4000000 in
theorem conf_any {w w0 : World} {b : Nat} {V : Nat} {bud st : Int} {ms ls : List LCl} {D tr : List Int} {vc vl vd : Value} (W : World) (h : Sol w w0 b V bud st ms ls D tr vc vl vd W) (hms : ∀ r ∈ ms, ClIn w r ∨ r ∈ ls) (hV : V ≤ 96) (hs : SpTo (V : Int) D D.length) (hw : ∀ r ∈ ms, (∀ z ∈ r.2, OkZ (V : Int) z) ∧ r.2.Nodup ∧ r.2.length ≤ 1000) (hn : ms.length ≤ 90000) (hT : TabB w) (hb0 : b ≠ 0) :
  Calls Tryz.prog 194 #[.pointer (some ⟨b, 0, none⟩)] W fun e w' => e = .returned (.bool (!((resF (bareC ms) (97 - D.length) D).2 == -1))) ∧ Sol w w0 b V bud st ms ls D (resF (bareC ms) (97 - D.length) D).1 vc vl vd w' := by
 have hl := hs.short (by omega : (V : Int) ≤ 96)
 obtain ⟨ds, dk, rfl⟩ := own_v h.od
 obtain ⟨bb, vr, hs9, ec, _⟩ := h.bk
 subst ec
 have HD := h.below (below_drew' W)
 have C1 := Lib.hid (take_any b (V : Int) ds dk D W.drew HD.blk.blkA (by omega) (by omega) (by unfold maxLen; omega) (own_ne HD.od HD.blk.2))
 have C2 := Lib.hid (show ∀ W', Sol w w0 b V bud st ms ls D D (.pointer (some ⟨bb, 0, none⟩)) vl (.slice ds D.length dk) W' → Calls Tryz.prog 222 #[.pointer (some ⟨b, 6, none⟩), .pointer (some ⟨bb, 0, none⟩)] W' fun e w' => ∃ v fl, e = .returned (.tuple #[v, .int .i64 (resF (bareC ms) (97 - D.length) D).2]) ∧ D ++ fl = (resF (bareC ms) (97 - D.length) D).1 ∧ w'.ownsRow W'.heap.size 2 1 v fl.length (valsZ fl) ∧ Only b W' w' ∧ VAt 6 212 (SF V bud st (.pointer (some ⟨bb, 0, none⟩)) vl (.slice ds D.length dk)) w' b (resF (bareC ms) (97 - D.length) D).1 from fun W' h' => by
  obtain ⟨bb', vr', hs', e', k'⟩ := h'.bk
  cases e'
  exact fol_any (V : Int) D W' h'.blk (by decide) (by omega) hs k' hn hw (h'.cls hms) (hT.belowT h'.bl) hb0)
 obtain ⟨hlt, c0, c1, c2, c3, c4, c5, hf⟩ := h.facts
 have HS := Lib.hid hs
 have HH := Lib.hid HD
 have SFX := Lib.hid (show ∀ W', Sol w w0 b V bud st ms ls D D (.pointer (some ⟨bb, 0, none⟩)) vl (.slice ds D.length dk) W' → b < W'.heap.size ∧ W'.cell? ⟨b, 3, none⟩ = some (.pointer (some ⟨bb, 0, none⟩)) from fun W' h' => ⟨h'.facts.1, h'.facts.2.2.2.2.1⟩)
 clear h HD hms hw hs c1 c2 c3 c4 hf hn hT
 generalize resF (bareC ms) (97 - D.length) D = R at *
 generalize hDn : D.length = dn at *
 clear hDn
 go_enter Tryz.func194, Tryz.ntmps194
 go_wp2
 go_region_with (go_at_call 221; refine C1.out.mono ?_; rintro e w1 ⟨rfl, hv1, ho1, hz1⟩)
 all_goals
  have S1 := Lib.hid (HH.out.vals ho1 (hv1 HS.out))
  obtain ⟨l1, d3⟩ := SFX.out _ S1.out
  have S1d := Lib.hid (S1.out.below (below_drew' w1))
  clear hv1 ho1 hz1
  go_wp2
  go_region_with (go_at_call 222; refine (C2.out _ S1d.out).mono ?_; rintro e w2 ⟨v, fl, rfl, hfl, ow, ho2, hv2⟩; have S2 := Lib.hid (S1d.out.vals ho2 hv2); obtain ⟨vs, vk, rfl⟩ := own_v ow; clear ho2 hv2 ow hfl)
  go_wp2
  go_ret
  exact ⟨rfl, S2.out⟩
theorem negW_negL {D : List Int} (h : ∀ z ∈ D, -96 ≤ z ∧ z ≤ 96) : negW D = negL D := by
 unfold negW negL
 exact List.map_congr_left (fun z hz => wrap_in _ (by have := h z hz; constructor <;> omega))
theorem negL_dup : ∀ {D : List Int}, D.Nodup → (negL D).Nodup
 | [], _ => List.nodup_nil
 | a :: r, h => by
  rw [List.nodup_cons] at h
  show (-a :: negL r).Nodup
  refine List.nodup_cons.2 ⟨fun g => ?_, negL_dup h.2⟩
  obtain ⟨z, hz, e⟩ := List.mem_map.1 g
  have : z = a := by omega
  subst this
  exact h.1 hz
set_option maxRecDepth 100000 in
set_option maxHeartbeats 4000000 in
theorem learn_any {w w0 : World} {b : Nat} {V bud st : Int} {ms ls : List LCl} {D tr : List Int} {vc vl vd : Value} (W : World) (h : Sol w w0 b V bud st ms ls D tr vc vl vd W) (hD : D.length ≤ 96) (hdup : D.Nodup) (hw : ∀ z ∈ D, -96 ≤ z ∧ z ≤ 96) (hl : ls.length ≤ 1000) (hm : ms.length ≤ 80000) :
  Calls Tryz.prog 195 #[.pointer (some ⟨b, 0, none⟩)] W fun e w' => e = .returned (.tuple #[]) ∧ ∃ (u vc' vl' : Value), Sol w w0 b V bud st (ms ++ [(u, negL D)]) (ls ++ [(u, negL D)]) D tr vc' vl' vd w' := by
 obtain ⟨ds, dk, rfl⟩ := own_v h.od
 obtain ⟨ds', dk', e', hi⟩ := own_ints h.od
 cases e'
 have C1 := tuW_any ds dk D W (by omega) hi
 rw [negW_negL hw] at C1
 have C1 := Lib.hid C1
 obtain ⟨hlt, c0, c1, c2, c3, c4, c5, hf⟩ := h.facts
 have HH := Lib.hid h
 obtain ⟨lv, lk, rfl⟩ := h.ol.v
 obtain ⟨bb, vr, hs9, ec, _⟩ := h.bk
 subst ec
 have KEY := Lib.hid (show ∀ w1, w1.ownsRow W.heap.size 2 1 (.slice (some ⟨W.heap.size, 0, none⟩) D.length D.length) (negL D).length (valsZ (negL D)) → Below W.heap.size W w1 →
   ∃ (s9 : Option Addr) (k9 : Nat) (w9 : World), (Builtin.append_ #[31, 31] 31 #[.slice lv ls.length lk, .slice (some ⟨w1.heap.size, 0, none⟩) 1 1]).run Tryz.prog (w1.alloc (.cells #[.slice (some ⟨W.heap.size, 0, none⟩) D.length D.length] 34)) = .ok (.slice s9 (ls.length + 1) k9) w9 ∧ (b < w1.heap.size ∧ w1.cell? ⟨b, 4, none⟩ = some (.slice lv ls.length lk) ∧ b < w9.heap.size ∧ w9.cell? ⟨b, 4, none⟩ = some (.slice lv ls.length lk) ∧ w9.cell? ⟨b, 3, none⟩ = some (.pointer (some ⟨bb, 0, none⟩)) ∧ w9.frozen? ⟨b, 4, none⟩ = false) ∧
    Calls Tryz.prog 192 #[.pointer (some ⟨bb, 0, none⟩), .slice (some ⟨W.heap.size, 0, none⟩) D.length D.length] (w9.setCell ⟨b, 4, none⟩ (.slice s9 (ls.length + 1) k9)) fun e w' => e = .returned (.tuple #[]) ∧ Sol w w0 b V bud st (ms ++ [(.slice (some ⟨W.heap.size, 0, none⟩) D.length D.length, negL D)]) (ls ++ [(.slice (some ⟨W.heap.size, 0, none⟩) D.length D.length, negL D)]) D tr (.pointer (some ⟨bb, 0, none⟩)) (.slice s9 (ls.length + 1) k9) (.slice ds D.length dk) w' from fun w1 ow b1 => by
  have hBs := HH.out.bl.size
  have H1 := HH.out.below b1
  have H2 := H1.below (bA0 w1 (.cells #[.slice (some ⟨W.heap.size, 0, none⟩) D.length D.length] 34))
  have hz2 : (w1.alloc (.cells #[.slice (some ⟨W.heap.size, 0, none⟩) D.length D.length] 34)).heap.size = w1.heap.size + 1 := by simp
  have hz1 := b1.size
  have or2 := H2.ol.row
  rw [← hdC_len ls] at or2
  obtain ⟨v9, w9, ha9, ow9, gr9⟩ := appH or2 (.slice (some ⟨W.heap.size, 0, none⟩) D.length D.length) rfl w1.heap.size (cell_at_new w1 _ 34) (by omega) (by rw [hdC_len]; omega)
  obtain ⟨s9, k9, rfl⟩ := own_v ow9
  rw [hdC_len] at ow9 ha9 gr9
  have bk9 := H2.slot H2.ol.row (by decide) gr9
  have rr : (w1.alloc (.cells #[.slice (some ⟨W.heap.size, 0, none⟩) D.length D.length] 34)).ownsRow w.heap.size 2 1 (.slice (some ⟨W.heap.size, 0, none⟩) D.length D.length) (negL D).length (valsZ (negL D)) := own_mono (own_below ow (bA0 _ _)) (by omega)
  have S9 := H2.lemma (r := (.slice (some ⟨W.heap.size, 0, none⟩) D.length D.length, negL D)) rr (fun j hj => by
   have hj' : j = W.heap.size := by
    have := (ow.lt j hj).1
    cases hj
    rfl
   subst hj'
   refine ⟨fun s hs e => ?_, fun e => ?_⟩
   ·have := ((HH.out.ol.each s hs).lt _ e).2
    omega
   ·have := (HH.out.od.lt _ e).2
    omega) gr9 ow9
  refine ⟨s9, k9, w9, ha9 31, ⟨H1.facts.1, H1.facts.2.2.2.2.2.1, bk9.lt, bk9.fld 4 (by omega), bk9.fld 3 (by omega), bk9.frozen 4⟩, ?_⟩
  obtain ⟨bb', vr', hs', e', k'⟩ := S9.bk
  cases e'
  have hrow := S9.ol.each (.slice (some ⟨W.heap.size, 0, none⟩) D.length D.length, negL D) (by simp)
  have hnl := negL_len D
  have := add_any (some ⟨W.heap.size, 0, none⟩) D.length (negL D) _ k' S9.bl.size (by omega) (by rw [hnl]; omega) (fun z hz => by
   obtain ⟨y, hy, rfl⟩ := List.mem_map.1 hz
   have := hw y hy
   omega) (negL_dup hdup) (fun V' hV' => by
   have r' : V'.ownsRow w.heap.size 2 1 (.slice (some ⟨W.heap.size, 0, none⟩) D.length D.length) (negL D).length (valsZ (negL D)) := own_typed hrow (fun k us _ e => hV'.typed e (by decide))
   obtain ⟨s, kk, e, hi⟩ := own_ints r'
   rw [hnl] at e
   cases e
   exact hi)
  rw [hnl] at this
  refine this.mono ?_
  rintro e w' ⟨rfl, ⟨vc', hs', kk'⟩, hok⟩
  exact ⟨rfl, S9.added hok ⟨_, vc', hs', rfl, by rw [bareC_add]; exact kk'⟩⟩)
 clear h hf c0 c1 c2 c3 c4 hi hw HH hdup
 generalize D.length = dn at *
 generalize ls.length = ln at *
 go_enter Tryz.func195, Tryz.ntmps195
 go_wp2_with fail
 refine C1.out.mono ?_
 rintro e w1 ⟨rfl, ow, b1⟩
 obtain ⟨s9, k9, w9, ha9, ⟨l1, q4, l9, p4, p3, f4⟩, hadd⟩ := KEY.out w1 ow b1
 have ADD := Lib.hid hadd
 clear KEY hadd ow b1 C1
 go_wp2_with (at_builtin; refine Lib.wpList_append_run _ rfl _ _ _ _ rfl _ _ rfl rfl _ _ ha9 ?_)
 refine ADD.out.mono ?_
 rintro e w5 ⟨rfl, hS⟩
 have FIN := Lib.hid hS
 clear hS ADD
 go_wp2
 go_end0
 exact ⟨rfl, _, _, _, FIN.out⟩
end Go.Proofs.YtnihhbfgbilimaaGreatDoor
