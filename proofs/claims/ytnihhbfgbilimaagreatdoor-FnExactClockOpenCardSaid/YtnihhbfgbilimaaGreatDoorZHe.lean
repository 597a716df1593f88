import Derived.Test.YtnihhbfgbilimaaGreatDoorHac
import Derived.Test.YtnihhbfgbilimaaGreatDoorKHad
namespace Go.Proofs.YtnihhbfgbilimaaGreatDoor
open Go.RowKit
set_option linter.unusedVariables false
theorem enCells_one (pl : List LPl) : ∀ u ∈ enCells pl, u.oneCell' = true := by
 intro u hu
 unfold enCells at hu
 obtain ⟨p, _, h⟩ := List.mem_flatMap.1 hu
 simp [encE] at h
 rcases h with rfl | rfl <;> rfl
theorem enCells_app (a b : List LPl) : enCells (a ++ b) = enCells a ++ enCells b := by simp [enCells]
theorem pl_cells {w : World} {c o : Nat} {pl : List LPl} (h : PlAt w c o pl) : ∀ (j : Nat) (u : Value), (enCells pl)[j]? = some u → w.cell? ((⟨c, o, none⟩ : Addr).add j) = some u := by
 intro j u hu
 have hl : j < pl.length * 2 := by
  rw [← enCells_len]
  exact (List.getElem?_eq_some_iff.1 hu).1
 rw [at_add]
 obtain ⟨i, rfl | rfl⟩ : ∃ i, j = i * 2 ∨ j = i * 2 + 1 := ⟨j / 2, by omega⟩
 ·have hi : i < pl.length := by omega
  rw [(h.cell i hi).1, ← hu, (enCells_at pl i hi).1]
 ·have hi : i < pl.length := by omega
  rw [← Nat.add_assoc, (h.cell i hi).2, ← hu, (enCells_at pl i hi).2]
theorem app_none27 (w : World) (ty : TypeId) (base : Option Addr) (n cap : Nat) (hle : n ≤ cap) (p : Option Addr) (c : Nat) :
  (Builtin.append_ #[28, 28] ty #[.slice base n cap, .slice p 0 c]).run Tryz.prog w = .ok (.slice base n cap) w := by
 obtain ⟨i, h1, h2, h3, h4⟩ := info_parts info34
 refine run_append_nothing w 28 28 ty 131 i Tryz.underlying28 h1 base n cap hle _ ?_
 cases p with
 | none => exact Src.ofNil _ Tryz.underlying28 c
 | some a => exact Src.ofSlice _ Tryz.underlying28 a 0 c [] (by simp) (fun j u h => by simp at h) (fun u h => by cases h)
set_option maxRecDepth 100000 in
set_option maxHeartbeats 2000000 in
theorem grow_any (n : Nat) (w : World) (hn : n ≤ 1048576) :
  Calls Tryz.prog 201 #[.slice none 0 0, .int .i64 n] w fun e w' => ∃ v, e = .returned v ∧ w'.ownsRow w.heap.size 131 2 v 0 (enCells []) ∧ Below w.heap.size w w' := by
 obtain ⟨i3, hi3, hd0, hd1, hd2⟩ := info_parts info34
 by_cases h0 : n = 0
 ·subst h0
  go_enter Tryz.func201, Tryz.ntmps201
  go_wp2
  go_ret
  exact ⟨_, rfl, ⟨rfl, .inl ⟨rfl, rfl⟩⟩, Below.refl _ _⟩
 ·have hp : (0 : Int) < (n : Int) := by omega
  have hneg : ¬ (n : Int) < 0 := by omega
  have hrz := fun ty => Lib.run_append_nil_zeros (P := Tryz.prog) w 28 3 ty 131 i3 _ .i64 .i64 Tryz.underlying28 Tryz.underlying3 hi3 hd0 n (by omega) (by omega) (by omega) (by rw [hd2]; omega)
  have hG := grownCap_ge w n 0 131
  have hM := grownCap_le_maxLen w n 0 131 (by unfold maxLen; omega)
  have hM' := hM
  unfold maxLen at hM'
  generalize grownCap w n 0 131 = G at *
  have O : Hid ((w.drew.alloc (.cells (Builtin.zeroCells (Value.agg #[Value.int .i64 0, Value.int .i64 0]).cells n ++ Builtin.zeroCells (Value.agg #[Value.int .i64 0, Value.int .i64 0]).cells (G - n)) 131)).ownsRow w.heap.size 131 2 (.slice (some ⟨w.heap.size, 0, none⟩) 0 G) 0 (enCells [])) := by
   refine ⟨rfl, .inr ⟨w.heap.size, G, _, rfl, Nat.le_refl _, new_at w.drew _, Nat.zero_le _, hM, ?_, rfl⟩⟩
   simp only [Array.size_append, size_zeroCells]
   rw [← Nat.add_mul, show (Value.agg #[Value.int .i64 0, Value.int .i64 0]).cells.size = 2 from rfl]
   congr 1
   omega
  have BL : Hid (Below w.heap.size w (w.drew.alloc (.cells (Builtin.zeroCells (Value.agg #[Value.int .i64 0, Value.int .i64 0]).cells n ++ Builtin.zeroCells (Value.agg #[Value.int .i64 0, Value.int .i64 0]).cells (G - n)) 131))) := bA ((Below.refl _ _).drew) _
  generalize Builtin.zeroCells (Value.agg #[Value.int .i64 0, Value.int .i64 0]).cells n ++ Builtin.zeroCells (Value.agg #[Value.int .i64 0, Value.int .i64 0]).cells (G - n) = vs at *
  go_enter Tryz.func201, Tryz.ntmps201
  go_wp2_with (at_builtin; refine Lib.wpList_append_run _ rfl _ _ _ _ rfl _ _ rfl rfl _ _ (hrz _) ?_)
  go_ret
  exact ⟨_, rfl, O.out, BL.out⟩
def flatR (rows : List LRow) : List LPl := rows.flatMap fun r => r.2
theorem flatR_step (rows : List LRow) (k : Nat) (h : k < rows.length) : flatR (rows.take (k + 1)) = flatR (rows.take k) ++ rows[k].2 := by
 unfold flatR
 rw [List.take_succ_eq_append_getElem h, List.flatMap_append]
 simp
theorem flatR_le (rows : List LRow) (k : Nat) : (flatR (rows.take k)).length ≤ (flatR rows).length := by
 have := congrArg (fun l => (flatR l).length) (List.take_append_drop k rows)
 simp only [flatR, List.flatMap_append, List.length_append] at this
 unfold flatR
 omega
theorem flatR_map {rs : List LSt} {top : Int} {ids : List Int} {rows : List LRow} (h : rows.map (fun r => r.2) = ids.map (chF rs top)) : flatR rows = plF rs top ids := by
 unfold flatR plF
 rw [List.flatMap_def, List.flatMap_def, h]
set_option maxRecDepth 100000 in
set_option maxHeartbeats 4000000 in
theorem cat_any (sl : Option Addr) (cap : Nat) (rows : List LRow) (w : World) (hn : rows.length ≤ 1048576) (hT : (flatR rows).length ≤ 1048576) (hz : Rws w sl rows) :
  Calls Tryz.prog 177 #[.slice sl rows.length cap] w fun e w' => ∃ v, e = .returned v ∧ w'.ownsRow w.heap.size 131 2 v (flatR rows).length (enCells (flatR rows)) ∧ Below w.heap.size w w' := by
 obtain ⟨i3, hi3, hd0, hd1, hd2⟩ := info_parts info34
 have HZ := Lib.hid hz
 have EG := Lib.hid (fun (W : World) (q : Nat) (h : q ≤ 1048576) => grow_any q W h)
 clear hz
 generalize hF : flatR rows = fl at *
 have HF := Lib.hid hF
 have FL := Lib.hid (fun k => flatR_le rows k)
 rw [hF] at FL
 clear hF
 generalize hN : rows.length = n at *
 have HN := Lib.hid hN
 clear hN
 go_enter Tryz.func177, Tryz.ntmps177
 go_wp2
 go_loopw [3, 11] (fun s i wr => ∃ (k q : Nat), i = .int .i64 k ∧ k ≤ n ∧ s = .int .i64 q ∧ q ≤ 1048576 ∧ Hid (q = (flatR (rows.take k)).length) ∧ wr = w) (fun _ i _ => n - (intOf i).toNat)
 case atStart => exact ⟨0, 0, rfl, Nat.zero_le _, rfl, Nat.zero_le _, rfl, rfl⟩
 case round =>
  obtain ⟨k, q, rfl, hk, rfl, hq, HQ, rfl⟩ := hrel
  have hk0 : (0 : Int) ≤ (k : Int) := by omega
  by_cases g1 : k < n
  ·have g1' : (k : Int) < (n : Int) := by omega
   have hlt : k < rows.length := by rw [HN.out]; exact g1
   obtain ⟨c, rfl, cl, hcs⟩ : ∃ c, sl = some ⟨c, 0, none⟩ ∧ c < wr.heap.size ∧ ∀ i (h : i < rows.length), wr.cell? ⟨c, i, none⟩ = some rows[i].1 := by
    rcases HZ.out.row with e | h
    ·rw [e] at hlt; simp at hlt
    ·exact h
   have hc := hcs k hlt
   obtain ⟨s1, k1, v1, -⟩ := HZ.out.each rows[k] (List.getElem_mem hlt)
   rw [v1] at hc
   have QN := Lib.hid (show q + rows[k].2.length = (flatR (rows.take (k + 1))).length by rw [flatR_step rows k hlt, List.length_append, HQ.out])
   have hq2 : q + rows[k].2.length ≤ 1048576 := by rw [QN.out]; have := FL.out (k + 1); omega
   clear hcs v1
   generalize rows[k].2.length = r at *
   clear hlt
   go_wp2
   go_roundw
   case rel => exact ⟨k + 1, q + r, by go_num, by omega, by go_num, hq2, QN, trivial⟩
   case measure => simp [intOf]; omega
  ·have g1' : ¬ (k : Int) < (n : Int) := by omega
   have E := Lib.hid (EG.out wr q hq)
   clear EG HQ
   go_wp2_with fail
   refine E.out.mono ?_
   rintro e w1 ⟨v1, rfl, o1, b1⟩
   obtain ⟨C0, hC0⟩ : ∃ C0, C0 = wr.heap.size := ⟨_, rfl⟩
   have RD : Hid (∀ W, Below C0 w1 W → Rws W sl rows) := fun W hW => HZ.out.below (b1.trans (by rw [← hC0]; exact hW))
   have FB : Hid (∀ W, Below C0 w1 W → Below wr.heap.size wr W) := fun W hW => b1.trans (by rw [← hC0]; exact hW)
   have hs1 : C0 ≤ w1.heap.size := by rw [hC0]; exact b1.size
   have O1 : Hid (w1.ownsRow C0 131 2 v1 0 (enCells [])) := by rw [hC0]; exact o1
   have OF : Hid (∀ (W : World) v xs, W.ownsRow C0 131 2 v fl.length xs → W.ownsRow wr.heap.size 131 2 v fl.length xs) := fun W v xs h => by rw [← hC0]; exact h
   clear o1 b1 E HZ hC0
   go_wp2
   go_loopw [6, 27] (fun v i wq => ∃ (k : Nat) (cu : List LPl), i = .int .i64 k ∧ k ≤ n ∧ Hid (cu = flatR (rows.take k)) ∧ Hid (wq.ownsRow C0 131 2 v cu.length (enCells cu)) ∧ Hid (Below C0 w1 wq)) (fun _ i _ => n - (intOf i).toNat)
   case atStart => exact ⟨0, [], rfl, Nat.zero_le _, rfl, O1, Below.refl _ _⟩
   case round =>
    obtain ⟨k, cu, rfl, hk, HC, OR, HB⟩ := hrel
    have hk0 : (0 : Int) ≤ (k : Int) := by omega
    by_cases g1 : k < n
    ·have g1' : (k : Int) < (n : Int) := by omega
     have hlt : k < rows.length := by rw [HN.out]; exact g1
     have RW := RD.out _ HB.out
     obtain ⟨c, rfl, cl, hcs⟩ : ∃ c, sl = some ⟨c, 0, none⟩ ∧ c < wr.heap.size ∧ ∀ i (h : i < rows.length), wr.cell? ⟨c, i, none⟩ = some rows[i].1 := by
      rcases RW.row with e | h
      ·rw [e] at hlt; simp at hlt
      ·exact h
     have hc := hcs k hlt
     obtain ⟨s1, k1, e1, p1⟩ := RW.each rows[k] (List.getElem_mem hlt)
     rw [e1] at hc
     have CS := Lib.hid (show cu ++ rows[k].2 = flatR (rows.take (k + 1)) by rw [HC.out]; exact (flatR_step rows k hlt).symm)
     have CL := Lib.hid (show (cu ++ rows[k].2).length ≤ 1048576 by rw [CS.out]; have := FL.out (k + 1); omega)
     obtain ⟨vsl, vcap, rfl⟩ := own_v OR.out
     have hlc : cu.length ≤ vcap := by
      rcases OR.out.2 with ⟨_, h0⟩ | ⟨g, cp, cur, hv, _, _, h5, _⟩
      ·rw [h0]; exact Nat.zero_le _
      ·cases hv; exact h5
     have hsw := HB.out.size
     clear hcs RW e1
     generalize rows[k].2 = r at *
     clear hlt
     by_cases hr : r = []
     ·subst hr
      have CSE : Hid (cu = flatR (rows.take (k + 1))) := by have := CS.out; rwa [List.append_nil] at this
      have ha := app_none27 wr 28 vsl cu.length vcap hlc s1 k1
      go_wp2_with (at_builtin; refine Lib.wpList_append_run _ rfl _ _ _ _ rfl _ _ rfl rfl _ _ ha ?_)
      go_roundw
      case rel => exact ⟨k + 1, cu, by go_num, by omega, CSE, OR, HB⟩
      case measure => simp [intOf]; omega
     ·obtain ⟨rc, ro, rfl, PA⟩ : ∃ c o, s1 = some ⟨c, o, none⟩ ∧ PlAt wr c o r := by
       rcases p1 with h | h
       ·exact absurd h hr
       ·exact h
      have hrl : 0 < r.length := by
       cases r with
       | nil => exact absurd rfl hr
       | cons a t => simp
      have CL2 : cu.length + r.length ≤ 1048576 := by have := CL.out; rwa [List.length_append] at this
      have OL := Lib.hid (show ∀ j, (Value.slice vsl cu.length vcap).ownBlock = some j → C0 ≤ j from fun j hj => (OR.out.lt j hj).1)
      go_wp2_with (at_builtin; refine wpList_append_lies _ rfl (.tmp 31) (.tmp 32) 28 rfl C0 131 i3 (.agg #[.int .i64 0, .int .i64 0]) 2 16 Tryz.underlying28 hi3 hd0 hd1 hd2 rfl (by decide) _ _ _ rfl OR.out ⟨rc, ro, none⟩ r.length k1 (enCells r) rfl (enCells_len r) (pl_cells PA) (enCells_one r) hrl (by unfold maxLen; omega) (by omega) (by omega) wr.heap.size rfl ?_)
      intro g9 cap9 w9 own9 grow9 hg9 hlt9
      have O9 : Hid (w9.ownsRow C0 131 2 (.slice (some ⟨g9, 0, none⟩) (cu.length + r.length) cap9) (cu ++ r).length (enCells (cu ++ r))) := by
       rw [enCells_app, List.length_append]; exact own9
      have B9 := Lib.hid (HB.out.grown grow9 (by omega) (fun j hj => OL.out j hj))
      clear own9 grow9 hg9 hlt9 OR HB OL p1 PA
      go_wp2
      go_roundw
      case rel => exact ⟨k + 1, cu ++ r, by go_num, by omega, CS, O9, B9⟩
      case measure => simp [intOf]; omega
    ·have g1' : ¬ (k : Int) < (n : Int) := by omega
     have P := Lib.hid (show cu = fl by rw [HC.out, List.take_of_length_le (by rw [HN.out]; omega), HF.out])
     have O9 := OR.out
     rw [P.out] at O9
     have OO := Lib.hid (OF.out _ _ _ O9)
     have BB := Lib.hid (FB.out _ HB.out)
     clear O9 OR HC P
     go_wp2
     go_ret
     exact ⟨_, rfl, OO.out, BB.out⟩
theorem Sts0.small {w : World} {sl : Option Addr} {rs : List LSt} (h : Sts0 w sl rs) (hs : totD rs ≤ 1048576) : Sts w sl rs := by
 refine ⟨h.row, fun r hr => ?_⟩
 obtain ⟨s, c, e, hi, _⟩ := h.dom r hr
 exact ⟨s, c, e, hi, Nat.le_trans (totD_mem rs r hr) hs⟩
theorem RowZ.set {w : World} {c : Nat} {zs : List Int} (h : RowZ w c zs) {b : Nat} (hb : c ≠ b) (i : Nat) (v : Value) : RowZ (w.setCell ⟨b, i, none⟩ v) c zs := (Below.heap_setCell _ _ _ _ hb).trans h
theorem DomOwn.set {b : Nat} {w : World} {r : LSt} (h : DomOwn b w r) (i : Nat) (v : Value) : DomOwn b (w.setCell ⟨b, i, none⟩ v) r := by
 obtain ⟨g, e, hi, hg, hl⟩ := h
 exact ⟨g, e, hi.set (Nat.ne_of_gt hg) i v, hg, hl⟩
theorem DomOwn.din {b : Nat} {w : World} {r : LSt} (h : DomOwn b w r) : DomIn w r := by
 obtain ⟨g, e, hi, hg, hl⟩ := h
 exact ⟨_, _, e, hi.ints, hl⟩
theorem Marked.step {w : World} {b s : Nat} {k : Int} {i : Nat} (h : Marked w b s k i) (hi : i < s) : Marked (w.setCell ⟨b, i, none⟩ (.int .i64 (k + (i : Int)))) b s k (i + 1) := by
 obtain ⟨vs, h1, h2, h3⟩ := h
 refine ⟨_, h1.set i _, by simp [h2], fun j hj => ?_⟩
 rw [Array.getElem?_setIfInBounds]
 by_cases e : i = j
 ·subst e; simp [h2, hi]
 ·rw [if_neg e]; exact h3 j (by omega)
theorem StM.kind {C L : Nat} {w : World} {b : Nat} {rs : List LSt} (h : StM C L w b rs) (o : Nat) (ho : ∀ i, o ≠ i * 3 + 2) (v : Value) : StM C L (w.setCell ⟨b, o, none⟩ v) b rs := by
 obtain ⟨vs, h1, h2, h3⟩ := h.row
 refine ⟨⟨_, heap_setCell_same w b o vs 92 v h1, by simp [h2], fun i hi => ?_⟩, fun r hr => ?_, h.lo, h.hi⟩
 ·rw [Array.getElem?_setIfInBounds_ne (ho i)]; exact h3 i hi
 ·obtain ⟨g, us, e, hz, r⟩ := h.dom r hr
  have hne : g ≠ b := by
   rintro rfl
   have hz' : w.heap[g]? = some (.cells us 2) := hz
   rw [h1] at hz'
   simp at hz'
  exact ⟨g, us, e, (Below.heap_setCell _ _ _ _ hne).trans hz, r⟩
theorem StM.there {C L : Nat} {w : World} {b : Nat} {rs : List LSt} (h : StM C L w b rs) (j : Nat) (hj : j < rs.length * 3) : (∃ v, w.cell? ⟨b, j, none⟩ = some v) ∧ w.frozen? ⟨b, j, none⟩ = false := by
 obtain ⟨vs, h1, h2, h3⟩ := h.row
 exact ⟨⟨vs[j]'(by omega), by simp [World.cell?, h1, show j < vs.size by omega]⟩, by simp [World.frozen?, h1]⟩
def PrM (w : World) (b m : Nat) : Prop := ∃ vs : Array Value, w.heap[b]? = some (.cells vs 165) ∧ vs.size = m * 3
theorem PrM.set {w : World} {b m : Nat} (h : PrM w b m) (o : Nat) (v : Value) : PrM (w.setCell ⟨b, o, none⟩ v) b m := by
 obtain ⟨vs, h1, h2⟩ := h
 exact ⟨_, heap_setCell_same w b o vs 165 v h1, by simp [h2]⟩
theorem PrM.there {w : World} {b m : Nat} (h : PrM w b m) (j : Nat) (hj : j < m * 3) : (∃ v, w.cell? ⟨b, j, none⟩ = some v) ∧ w.frozen? ⟨b, j, none⟩ = false := by
 obtain ⟨vs, h1, h2⟩ := h
 exact ⟨⟨vs[j]'(by omega), by simp [World.cell?, h1, show j < vs.size by omega]⟩, by simp [World.frozen?, h1]⟩
theorem rise_of {lo hi : Int} {zs : List Int} (h : InRise lo hi zs) : RiseTo zs zs.length := fun i hk h0 => (h i hk).2 h0
set_option maxRecDepth 100000 in
set_option maxHeartbeats 1000000 in
theorem iir_any (sl : Option Addr) (cap : Nat) (sl2 : Option Addr) (cap2 : Nat) (sl3 : Option Addr) (cap3 : Nat) (rs : List LSt) (ps : List LPr) (zs : List Int) (w : World) (hn : rs.length ≤ 1048576) (hl : zs.length ≤ maxLen) (hz : Sts w sl rs) (hp : Prs w sl2 ps) (hw : ∀ p ∈ ps, WfP p) (hi : Ints w sl3 zs) :
  Calls Tryz.prog 65 #[TV sl rs.length cap sl2 ps.length cap2, .slice sl3 zs.length cap3] w fun e w' => e = .returned (.bool (B (IdsR rs ps zs))) ∧ Below w.heap.size w w' := by
 have hl' := hl
 unfold maxLen at hl'
 have HT := Lib.hid (TabAtD.new w sl rs.length cap sl2 ps.length cap2)
 have B0 := Lib.hid (bA0 w (.cells #[.slice sl rs.length cap, .slice sl2 ps.length cap2] 26))
 have E1 : Hid (∀ W, Below w.heap.size w W → Calls Tryz.prog 113 #[TV sl rs.length cap sl2 ps.length cap2] W fun e w' => e = .returned (.bool (B (TabR rs ps))) ∧ Below W.heap.size W w') := fun W hW => itr_any sl cap sl2 cap2 rs ps W (hz.below hW) (hp.below hW) hw
 have E2 : Hid (∀ W, Below w.heap.size w W → Calls Tryz.prog 127 #[.slice sl3 zs.length cap3, .int .i64 1, .int .i64 999] W fun e w' => e = .returned (.bool (B (InRise 1 999 zs))) ∧ Below W.heap.size W w') := fun W hW => rw_any 1 999 sl3 cap3 zs W hl (hi.below hW)
 have E3 : Hid (∀ W, Below w.heap.size w W → Calls Tryz.prog 115 #[TV sl rs.length cap sl2 ps.length cap2] W fun e w' => ∃ v, e = .returned v ∧ w'.ownsRow W.heap.size 2 1 v rs.length (valsZ (idsL rs)) ∧ Below W.heap.size W w') := fun W hW => ids_any sl cap sl2 ps.length cap2 rs W hn (hz.below hW)
 have HI := Lib.hid hi
 clear hz hp hw hi
 by_cases h4 : zs.length ≤ 400
 ·have h4' : ¬ (400 : Int) < (zs.length : Int) := by omega
  cases hb : B (TabR rs ps) with
  | false =>
   have NO := Lib.hid (B_no (p := IdsR rs ps zs) (fun g => B_false hb g.2.1))
   rw [NO.out]
   rw [hb] at E1
   clear hb NO E2 E3
   generalize rs.length = n at *
   generalize ps.length = m at *
   generalize zs.length = q at *
   go_enter Tryz.func65, Tryz.ntmps65
   go_wp2_with fail
   refine (E1.out _ B0.out).mono ?_
   rintro e w1 ⟨rfl, b1⟩
   have D1 := Lib.hid (bT B0.out b1)
   clear b1 E1
   go_wp2
   go_ret
   exact ⟨rfl, D1.out⟩
  | true =>
   have TR := Lib.hid (B_true hb)
   rw [hb] at E1
   cases hc : B (InRise 1 999 zs) with
   | false =>
    have NO := Lib.hid (B_no (p := IdsR rs ps zs) (fun g => B_false hc (inRise_of TR.out.2.2.1 g.2.2.1 g.2.2.2)))
    rw [NO.out]
    rw [hc] at E2
    clear hb hc NO E3 TR
    generalize rs.length = n at *
    generalize ps.length = m at *
    generalize zs.length = q at *
    go_enter Tryz.func65, Tryz.ntmps65
    go_wp2_with fail
    refine (E1.out _ B0.out).mono ?_
    rintro e w1 ⟨rfl, b1⟩
    have D1 := Lib.hid (bT B0.out b1)
    clear b1 E1
    go_wp2_with fail
    refine (E2.out _ D1.out).mono ?_
    rintro e w2 ⟨rfl, b2⟩
    have D2 := Lib.hid (bT D1.out b2)
    clear b2 E2
    go_wp2
    go_ret
    exact ⟨rfl, D2.out⟩
   | true =>
    have IR := Lib.hid (B_true hc)
    rw [hc] at E2
    have K4 : Hid (∀ x C v W, World.ownsRow W C 2 1 v rs.length (valsZ (idsL rs)) → Calls Tryz.prog 128 #[v, .int .i64 x] W fun e w' => e = .returned (.bool (B (x ∈ idsL rs))) ∧ Below W.heap.size W w') := fun x C v W o => by
     rw [← idsL_len rs] at o
     obtain ⟨s, k, rfl, i⟩ := own_ints o
     exact has_any s k x (idsL rs) W (by rw [idsL_len]; exact hn) i
    clear hb hc
    generalize hQ : zs.length = q at *
    have HQ := Lib.hid hQ
    clear hQ
    generalize hNN : rs.length = n at *
    clear hNN
    generalize ps.length = m at *
    go_enter Tryz.func65, Tryz.ntmps65
    go_wp2_with fail
    refine (E1.out _ B0.out).mono ?_
    rintro e w1 ⟨rfl, b1⟩
    have D1 := Lib.hid (bT B0.out b1)
    have T1 := Lib.hid (HT.out.below b1)
    clear b1 E1 HT
    go_wp2_with fail
    refine (E2.out _ D1.out).mono ?_
    rintro e w2 ⟨rfl, b2⟩
    have D2 := Lib.hid (bT D1.out b2)
    have T2 := Lib.hid (T1.out.below b2)
    clear b2 E2 D1 T1
    obtain ⟨t0, t1⟩ := T2.out.cells
    have tl := T2.out.lt
    go_wp2_with fail
    refine (E3.out _ D2.out).mono ?_
    rintro e w3 ⟨v3, rfl, o3, b3⟩
    have D3 := Lib.hid (bT D2.out b3)
    have O3 := Lib.hid o3
    clear b3 o3 E3 D2 T2 t0 t1 tl
    go_wp2
    go_loopw [25] (fun i wr => ∃ k : Nat, i = .int .i64 k ∧ k ≤ q ∧ Hid (InTo (idsL rs) zs k) ∧ Hid (Below w3.heap.size w3 wr)) (fun i _ => q - (intOf i).toNat)
    case atStart => exact ⟨0, rfl, Nat.zero_le _, InTo.zero _ _, Below.refl _ _⟩
    case round =>
     obtain ⟨k, rfl, hk, IT, H2⟩ := hrel
     have hk0 : (0 : Int) ≤ (k : Int) := by omega
     have DW := Lib.hid (bT D3.out H2.out)
     by_cases g1 : k < q
     ·have g1' : (k : Int) < (q : Int) := by omega
      have hlt : k < zs.length := by rw [HQ.out]; exact g1
      obtain ⟨c, o, rfl, ZI⟩ : ∃ c o, sl3 = some ⟨c, o, none⟩ ∧ IntsAt w c o zs := by
       rcases HI.out with e | h
       ·rw [e] at hlt; simp at hlt
       ·exact h
      have hcc := (DW.out.cell (p := ⟨c, o + k, none⟩) ZI.1).trans (ZI.2 k hlt)
      have E5 := Lib.hid (K4.out (zs.getD k 0) _ v3 wr (own_below O3.out H2.out))
      cases hm : B (zs.getD k 0 ∈ idsL rs) with
      | true =>
       rw [hm] at E5
       have IT2 := Lib.hid (IT.out.step (B_true hm))
       generalize zs.getD k 0 = z at *
       clear hm hlt ZI IT
       go_wp2_with fail
       refine E5.out.mono ?_
       rintro e w5 ⟨rfl, b5⟩
       have H5 := Lib.hid (bT H2.out b5)
       clear b5 E5
       go_wp2
       go_roundw
       case rel => exact ⟨k + 1, by go_num, by omega, IT2, H5⟩
       case measure => simp [intOf]; omega
      | false =>
       rw [hm] at E5
       have NO := Lib.hid (B_no (p := IdsR rs ps zs) (fun g => B_false hm (g.2.2.2 _ (getD_mem hlt))))
       generalize zs.getD k 0 = z at *
       clear hm hlt ZI IT
       go_wp2_with fail
       refine E5.out.mono ?_
       rintro e w5 ⟨rfl, b5⟩
       have H5 := Lib.hid (bT DW.out b5)
       clear b5 E5
       go_wp2
       go_ret
       exact ⟨by rw [NO.out]; rfl, H5.out⟩
     ·have g1' : ¬ (k : Int) < (q : Int) := by omega
      have YES := Lib.hid (B_yes (p := IdsR rs ps zs) ⟨by rw [HQ.out]; exact h4, TR.out, rise_of IR.out, IT.out.all (by rw [HQ.out]; omega)⟩)
      clear IT
      go_wp2
      go_ret
      exact ⟨by rw [YES.out]; rfl, DW.out⟩
 ·have h4' : (400 : Int) < (zs.length : Int) := by omega
  have NO := Lib.hid (B_no (p := IdsR rs ps zs) (fun g => h4 g.1))
  rw [NO.out]
  clear NO E1 E2 E3
  generalize rs.length = n at *
  generalize ps.length = m at *
  generalize zs.length = q at *
  go_enter Tryz.func65, Tryz.ntmps65
  go_wp2
  go_ret
  exact ⟨rfl, B0.out⟩
end Go.Proofs.YtnihhbfgbilimaaGreatDoor
namespace Go.Proofs.YtnihhbfgbilimaaGreatDoor
open Go.RowKit Go.Maps
set_option linter.unusedVariables false
def kindF (x : Int × Int) (z : Int) (ps : List LPr) : Int := ps.foldl (fun a p => if ends p = x then p.2.2 else a) z
def kindL (ps : List LPr) (x : Int × Int) : Int := kindF x 0 ps
theorem fold_at (ps : List LPr) (hw : ∀ p ∈ ps, WfP p) (x : Int × Int) (hx : wfI x.1 ∧ wfI x.2) : ∀ (D : DataW Unit) (z : Int), IsMap D → D.atKey (kOf x) (.lit (.int .i64 0)) = .lit (.int .i64 z) → (ps.foldl (fun D p => D.put (kOf (ends p)) (.lit (.int .i64 p.2.2))) D).atKey (kOf x) (.lit (.int .i64 0)) = .lit (.int .i64 (kindF x z ps)) := by
 induction ps with
 | nil => intro D z _ h; exact h
 | cons p r ih =>
  intro D z hD h
  have hp := hw p (by simp)
  rw [List.foldl_cons]
  show _ = DataW.lit (.int .i64 (kindF x (if ends p = x then p.2.2 else z) r))
  refine ih (fun q hq => hw q (by simp [hq])) _ _ (hD.put _ _) ?_
  by_cases e : ends p = x
  ·rw [if_pos e, e]
   exact atKey_put_same hD (kOf_key _ hx) _ _
  ·rw [if_neg e, atKey_put_other (fun h' => e (kOf_inj hx hp.1 h').symm)]
   exact h
theorem Kd_at (ps : List LPr) (hw : ∀ p ∈ ps, WfP p) (x : Int × Int) (hx : wfI x.1 ∧ wfI x.2) : (Kd ps).atKey (kOf x) (.lit (.int .i64 0)) = .lit (.int .i64 (kindL ps x)) :=
 fold_at ps hw x hx _ 0 isMap_empty (atKey_of_not_has (by simp [Maps.has]) _)
def FitsAt (w : World) (kb : Nat) (ps : List LPr) : Prop := ∃ mb n, w.heap[kb]? = some (.cells #[.map (some mb)] 231) ∧ w.ownsMap Tryz.prog 234 (plainElem (H := Unit) Tryz.prog 2) mb n (Kd ps)
theorem FitsAt.lt {w : World} {kb : Nat} {ps : List LPr} (h : FitsAt w kb ps) : kb < w.heap.size := by
 obtain ⟨_, _, h1, _⟩ := h
 exact (Array.getElem?_eq_some_iff.1 h1).1
theorem FitsAt.below {w w' : World} {kb : Nat} {ps : List LPr} (h : FitsAt w kb ps) (hb : Below w.heap.size w w') : FitsAt w' kb ps := by
 have hl := h.lt
 obtain ⟨mb, n, h1, h2⟩ := h
 exact ⟨mb, n, (hb.block kb hl).trans h1, h2.belowM hb⟩
abbrev FV (kb : Nat) : Value := .func (.func 213) #[] #[.pointer (some ⟨kb, 0, none⟩)]
set_option maxRecDepth 100000 in
set_option maxHeartbeats 1000000 in
theorem bi_any (sl : Option Addr) (n cap : Nat) (sl2 : Option Addr) (cap2 : Nat) (ps : List LPr) (w : World) (hn : ps.length ≤ 1000) (hp : Prs w sl2 ps) (hw : ∀ p ∈ ps, WfP p) :
  Calls Tryz.prog 180 #[TV sl n cap sl2 ps.length cap2] w fun e w' => ∃ kb, e = .returned (FV kb) ∧ FitsAt w' kb ps ∧ Below w.heap.size w w' := by
 have hmf : ∀ (fn : Fn) (first cap : Array Value) (w : World), (Instr.makeFunc fn first cap).run Tryz.prog w = .ok (.func fn first cap) w := fun _ _ _ _ => rfl
 have K1 := Lib.hid (ks_any sl2 cap2 ps (w.alloc (.cells #[.slice sl n cap, .slice sl2 ps.length cap2] 26)) hn (hp.below (bA0 _ _)) hw)
 have B0 := Lib.hid (bA0 w (.cells #[.slice sl n cap, .slice sl2 ps.length cap2] 26))
 clear hp hw
 generalize ps.length = m at *
 go_enter Tryz.func180, Tryz.ntmps180
 go_wp2_with fail
 generalize w.alloc (.cells #[.slice sl n cap, .slice sl2 m cap2] 26) = w0 at *
 refine K1.out.mono ?_
 rintro e w1 ⟨rfl, hm, b1⟩
 have D1 := Lib.hid (bA (bT B0.out b1) (.cells #[.map (some w0.heap.size)] 231))
 have F1 : Hid (FitsAt (w1.alloc (.cells #[.map (some w0.heap.size)] 231)) w1.heap.size ps) := ⟨_, _, new_at _ _, hm.belowM (bA0 _ _)⟩
 clear hm b1 K1
 go_wp2
 go_ret
 exact ⟨_, rfl, F1.out, D1.out⟩
def apartI (c d : Int) : Int := max c d - min c d
def keyI (a b : Int) : Int × Int := (min a b, max a b)
def fitB (ps : List LPr) (pl : List LPl) (x : LPl) : Bool := pl.all fun o => decide (kindL ps (keyI o.1 x.1) ≤ apartI o.2 x.2)
def Small (p : LPl) : Prop := (0 ≤ p.1 ∧ p.1 ≤ 1000) ∧ (0 ≤ p.2 ∧ p.2 ≤ 1000)
set_option maxRecDepth 100000 in
set_option maxHeartbeats 2000000 in
theorem fit_any (sl : Option Addr) (cap : Nat) (pl : List LPl) (x y : Int) (kb : Nat) (ps : List LPr) (w : World) (hn : pl.length ≤ 1048576) (hz : Pls w sl pl) (hs : ∀ p ∈ pl, Small p) (hx : Small (x, y)) (hw : ∀ p ∈ ps, WfP p) (hf : FitsAt w kb ps) :
  Calls Tryz.prog 213 #[.slice sl pl.length cap, .agg #[.int .i64 x, .int .i64 y], .pointer (some ⟨kb, 0, none⟩)] w fun e w' => e = .returned (.bool (fitB ps pl (x, y))) ∧ Below w.heap.size w w' := by
 have B0 := Lib.hid (bA0 w (.cells #[.int .i64 x, .int .i64 y] 131))
 have HX := Lib.hid (show (w.alloc (.cells #[.int .i64 x, .int .i64 y] 131)).heap[w.heap.size]? = some (.cells #[.int .i64 x, .int .i64 y] 131) from new_at _ _)
 have F0 := Lib.hid (hf.below (bA0 w (.cells #[.int .i64 x, .int .i64 y] 131)))
 have HZ := Lib.hid hz
 have HS := Lib.hid hs
 have HW := Lib.hid hw
 have XS := Lib.hid hx
 clear hz hs hw hf
 obtain ⟨⟨x1, x2⟩, ⟨y1, y2⟩⟩ := hx
 dsimp only at x1 x2 y1 y2
 generalize hR : fitB ps pl (x, y) = r
 have HR := Lib.hid hR
 clear hR
 generalize hN : pl.length = n at *
 have HN := Lib.hid hN
 clear hN
 go_enter Tryz.func213, Tryz.ntmps213
 go_wp2
 generalize w.alloc (.cells #[.int .i64 x, .int .i64 y] 131) = w0 at *
 go_loopw [11] (fun i wr => ∃ k : Nat, i = .int .i64 k ∧ k ≤ n ∧ Hid (r = fitB ps (pl.drop k) (x, y)) ∧ Hid (Below w0.heap.size w0 wr)) (fun i _ => n - (intOf i).toNat)
 case atStart => exact ⟨0, rfl, Nat.zero_le _, HR.out.symm, Below.refl _ _⟩
 case round =>
  obtain ⟨k, rfl, hk, HM, H2⟩ := hrel
  have hk0 : (0 : Int) ≤ (k : Int) := by omega
  have DW := Lib.hid (bT B0.out H2.out)
  by_cases h1 : k < n
  ·have h1' : (k : Int) < (n : Int) := by omega
   have hlt : k < pl.length := by rw [HN.out]; exact h1
   obtain ⟨g, o, rfl, Z0⟩ : ∃ c o, sl = some ⟨c, o, none⟩ ∧ PlAt w c o pl := by
    rcases HZ.out with e | h
    ·rw [e] at hlt; simp at hlt
    ·exact h
   have g0 := (DW.out.cell Z0.lt).trans (Z0.cell k hlt).1
   have g1 := (DW.out.cell Z0.lt).trans (Z0.cell k hlt).2
   have SM := HS.out pl[k] (List.getElem_mem hlt)
   have FA := Lib.hid (show fitB ps (pl.drop k) (x, y) = (decide (kindL ps (keyI pl[k].1 x) ≤ apartI pl[k].2 y) && fitB ps (pl.drop (k + 1)) (x, y)) by
    rw [← List.getElem_cons_drop (h := hlt)]; rfl)
   obtain ⟨a, c, hp⟩ : ∃ a c, pl[k] = (a, c) := ⟨_, _, rfl⟩
   rw [hp] at g0 g1 SM FA
   obtain ⟨⟨a1, a2⟩, ⟨c1, c2⟩⟩ := SM
   dsimp only at g0 g1 a1 a2 c1 c2 FA
   have hxb := Lib.hid ((H2.out.block w.heap.size (Array.getElem?_eq_some_iff.1 HX.out).1).trans HX.out)
   have xl : w.heap.size < wr.heap.size := (Array.getElem?_eq_some_iff.1 hxb.out).1
   have xc0 : wr.cell? ⟨w.heap.size, 0, none⟩ = some (.int .i64 x) := by simp [World.cell?, hxb.out]
   have xc1 : wr.cell? ⟨w.heap.size, 1, none⟩ = some (.int .i64 y) := by simp [World.cell?, hxb.out]
   have F2 := F0.out.below H2.out
   have kbl := F2.lt
   obtain ⟨mb, mn, f1, f2⟩ := F2
   have fc : wr.cell? ⟨kb, 0, none⟩ = some (.map (some mb)) := by simp [World.cell?, f1]
   have OM := Lib.hid (f2.belowM (bA0 wr (.cells #[.int .i64 a, .int .i64 c] 131)))
   clear hp hlt Z0 hxb f1 f2
   have wk : wfI (min a x) ∧ wfI (max a x) := ⟨wf_small (by omega), wf_small (by omega)⟩
   have KK := Lib.hid (key_is (min a x, max a x) wk)
   have KE : Hid (∀ cc : Int, (Kd ps).atKey (kOf (min a x, max a x)) (.lit (.int .i64 0)) = .lit (.int .i64 cc) → cc = kindL ps (min a x, max a x)) := fun cc h => by
    rw [Kd_at ps HW.out _ wk] at h
    simpa using h.symm
   have hwr := H2.out.size
   have B5 := Lib.hid (bA H2.out (.cells #[.int .i64 a, .int .i64 c] 131))
   have B6 := Lib.hid (bA DW.out (.cells #[.int .i64 a, .int .i64 c] 131))
   clear wk
   by_cases hv : kindL ps (min a x, max a x) ≤ max c y - min c y
   ·have hv' : ¬ max c y - min c y < kindL ps (min a x, max a x) := by omega
    have HM2 := Lib.hid (show r = fitB ps (pl.drop (k + 1)) (x, y) by
     rw [HM.out, FA.out]
     unfold keyI apartI
     rw [decide_eq_true hv, Bool.true_and])
    clear HM FA
    go_wp2_with (first | (at_lookup; refine wpList_lookup_own_int _ rfl _ _ 231 rfl 234 2 .i64 law63 Tryz.underlying231 Tryz.underlying2 (Tryz.zeroValue2 _) mb mn (Kd ps) rfl OM.out _ _ rfl KK.out ?_; intro cc hat hwc; have hcc := KE.out cc hat; subst hcc; clear hat hwc))
    go_roundw
    case rel => exact ⟨k + 1, by go_num, by omega, HM2, B5⟩
    case measure => simp [intOf]; omega
   ·have hv' : max c y - min c y < kindL ps (min a x, max a x) := by omega
    have R := Lib.hid (show r = false by
     rw [HM.out, FA.out]
     unfold keyI apartI
     rw [decide_eq_false hv, Bool.false_and])
    clear HM FA
    go_wp2_with (first | (at_lookup; refine wpList_lookup_own_int _ rfl _ _ 231 rfl 234 2 .i64 law63 Tryz.underlying231 Tryz.underlying2 (Tryz.zeroValue2 _) mb mn (Kd ps) rfl OM.out _ _ rfl KK.out ?_; intro cc hat hwc; have hcc := KE.out cc hat; subst hcc; clear hat hwc))
    go_ret
    exact ⟨by rw [R.out]; rfl, B6.out⟩
  ·have h1' : ¬ (k : Int) < (n : Int) := by omega
   have R := Lib.hid (show r = true by rw [HM.out, List.drop_eq_nil_of_le (by rw [HN.out]; omega)]; rfl)
   clear HM
   go_wp2
   go_ret
   exact ⟨by rw [R.out]; rfl, DW.out⟩
theorem kindF_none (x : Int × Int) (z : Int) (ps : List LPr) (h : ∀ p ∈ ps, ends p ≠ x) : kindF x z ps = z := by
 induction ps with
 | nil => rfl
 | cons p r ih =>
  show kindF x (if ends p = x then p.2.2 else z) r = z
  rw [if_neg (h p (by simp))]
  exact ih (fun q hq => h q (by simp [hq]))
theorem may_fit1 (ps : List LPr) (a c b d : Int) (h1 : ∀ p ∈ ps, p.1 < p.2.1 ∧ (p.2.2 = 1 ∨ p.2.2 = 2)) (h2 : PSort ps) : mayL ps a c b d = decide (kindL ps (min a b, max a b) ≤ max c d - min c d) := by
 unfold kindL
 induction ps with
 | nil => unfold mayL kindF; simp; omega
 | cons p r ih =>
  obtain ⟨x, y, q⟩ := p
  have hp := h1 (x, y, q) (by simp)
  dsimp only at hp
  unfold PSort at h2
  rw [List.map_cons, List.pairwise_cons] at h2
  show (if (x = a ∧ y = b) ∨ (x = b ∧ y = a) then decide (c ≠ d ∧ (q = 1 ∨ absI (c - d) ≠ 1)) else mayL r a c b d) = decide (kindF (min a b, max a b) (if ends (x, y, q) = (min a b, max a b) then q else 0) r ≤ max c d - min c d)
  by_cases hm : (x = a ∧ y = b) ∨ (x = b ∧ y = a)
  ·have he : ends (x, y, q) = (min a b, max a b) := by
    show (x, y) = _
    rcases hm with ⟨rfl, rfl⟩ | ⟨rfl, rfl⟩ <;> exact Prod.ext (by show _ = min _ _; omega) (by show _ = max _ _; omega)
   rw [if_pos hm, if_pos he, kindF_none]
   ·rw [decide_eq_decide]
    unfold absI
    split <;> omega
   ·intro p hpm e
    have := h2.1 (ends p) (List.mem_map_of_mem hpm)
    rw [he, e] at this
    exact Lt2.irr _ this
  ·have he : ends (x, y, q) ≠ (min a b, max a b) := by
    intro e
    have e1 : x = min a b := congrArg Prod.fst e
    have e2 : y = max a b := congrArg Prod.snd e
    apply hm
    by_cases ab : a ≤ b
    ·left; constructor <;> omega
    ·right; constructor <;> omega
   rw [if_neg hm, if_neg he]
   exact ih (fun p hp => h1 p (by simp [hp])) h2.2
theorem fit_may (rs : List LSt) (ps : List LPr) (pl : List LPl) (x : LPl) (h : TabR rs ps) : fitB ps pl x = pl.all (fun o => mayL ps o.1 o.2 x.1 x.2) := by
 unfold fitB
 congr 1
 funext o
 rw [may_fit1 ps o.1 o.2 x.1 x.2 (fun p hp => ⟨(h.2.2.2.1 p hp).1, (h.2.2.2.1 p hp).2.1⟩) h.2.2.2.2]
 rfl
theorem pidsA_eq {pl : List LPl} (h : pl.length ≤ 400) : pidsA pl = pidsL pl := by unfold pidsA; rw [if_pos h]
theorem nbsF_len (ds : List (List LPl)) : ∀ last, (nbsF last ds).length = ds.length := by
 induction ds with
 | nil => intro _; rfl
 | cons d r ih => intro last; simp [nbsF, ih]
theorem nbsF_append (a b : List (List LPl)) : ∀ last, nbsF last (a ++ b) = nbsF last a ++ nbsF (last + a.flatten.length) b := by
 induction a with
 | nil => intro last; simp [nbsF]
 | cons x r ih => intro last; simp only [List.cons_append, nbsF, ih, List.flatten_cons, List.length_append]; congr 3; omega
theorem OwC.join {w wa w9 : World} {B : Nat} {v v2 v9 : Value} {cs ds : List LCl} (h : OwC w B v cs) (hb : Below w.heap.size w wa) (h2 : OwC wa w.heap.size v2 ds) (hB : B ≤ w.heap.size) (hg : wa.grownBy w9 v.ownBlock) (own9 : w9.ownsRow B 34 1 v9 (cs ++ ds).length (hdC cs ++ hdC ds)) : OwC w9 B v9 (cs ++ ds) := by
 have ha := h.below hb
 refine ⟨by rw [hdC_add]; exact own9, fun s hs => ?_, ?_⟩
 ·rcases List.mem_append.1 hs with hs | hs
  ·exact (ha.each s hs).kept hg (own_diff (ha.each s hs) ha.row (by decide))
  ·exact own_mono ((h2.each s hs).kept hg (own_diff (h2.each s hs) ha.row (by decide))) hB
 ·refine List.pairwise_append.2 ⟨h.diff, h2.diff, fun s hs t ht => ?_⟩
  cases e : s.1.ownBlock with
  | none => exact .inl e
  | some j =>
   refine .inr fun e2 => ?_
   rw [e] at e2
   have := ((h.each s hs).lt j e).2
   have := ((h2.each t ht).lt j e2.symm).1
   omega
def numF (last : Int) (n : Nat) : List Int := (List.range n).map fun i : Nat => last + (i : Int) + 1
theorem numF_len (last : Int) (n : Nat) : (numF last n).length = n := by simp [numF]
theorem numF_step (last : Int) (n : Nat) : numF last (n + 1) = numF last n ++ [last + (n : Int) + 1] := by simp [numF, List.range_succ]
theorem nbF_snd (l : List LPl) (last : Int) : (nbF last l).map (fun e => e.2) = numF last l.length := by
 apply List.ext_getElem
 ·simp [nbF_len, numF]
 ·intro k h1 h2
  have hk : k < l.length := by simpa [nbF_len] using h1
  simp only [List.getElem_map, nbF_at l last k hk]
  simp [numF]
def numR (rows : List LRow) : List (List Int) := (nbsF 0 (rows.map fun r => r.2)).map fun b => b.map fun e => e.2
theorem flat_len (rows : List LRow) : (rows.map fun r => r.2).flatten = flatR rows := by unfold flatR; rw [List.flatMap_def]
theorem numR_step (rows : List LRow) (k : Nat) (h : k < rows.length) : numR (rows.take (k + 1)) = numR (rows.take k) ++ [numF ((flatR (rows.take k)).length : Nat) rows[k].2.length] := by
 unfold numR
 rw [List.take_succ_eq_append_getElem h, List.map_append, nbsF_append, List.map_append, flat_len]
 simp only [List.map_cons, List.map_nil, nbsF, nbF_snd, Int.zero_add]
set_option maxRecDepth 100000 in
set_option maxHeartbeats 4000000 in
theorem vo_any (sl : Option Addr) (cap : Nat) (rows : List LRow) (w : World) (hn : rows.length ≤ 400) (hT : (flatR rows).length ≤ 1048576) (hz : Rws w sl rows) :
  Calls Tryz.prog 173 #[.slice sl rows.length cap] w fun e w' => ∃ v cs, e = .returned v ∧ OwC w' w.heap.size v cs ∧ bareC cs = numR rows ∧ Below w.heap.size w w' := by
 obtain ⟨i2, hi2, hb0, hb1, hb2⟩ := info_parts info2'
 obtain ⟨i4, hi4, hd0, hd1, hd2⟩ := info_parts info40
 have HZ := Lib.hid hz
 have FL := Lib.hid (fun k => flatR_le rows k)
 clear hz
 generalize hN : rows.length = n at *
 have HN := Lib.hid hN
 clear hN
 go_enter Tryz.func173, Tryz.ntmps173
 go_wp2
 go_loopw [3, 4, 10] (fun v l i wr => ∃ (k q : Nat) (cs : List LCl), i = .int .i64 k ∧ k ≤ n ∧ l = .int .i64 q ∧ q ≤ 1048576 ∧ Hid (q = (flatR (rows.take k)).length) ∧ Hid (OwC wr w.heap.size v cs) ∧ cs.length ≤ k ∧ Hid (bareC cs = numR (rows.take k)) ∧ Hid (Below w.heap.size w wr)) (fun _ _ i _ => n - (intOf i).toNat)
 case atStart => exact ⟨0, 0, [], rfl, Nat.zero_le _, rfl, Nat.zero_le _, rfl, OwC.nil _ _, Nat.zero_le _, rfl, Below.refl _ _⟩
 case round =>
  obtain ⟨k, q, cs, rfl, hk, rfl, hq, HQ, OC, hcl, BC, HB⟩ := hrel
  have hk0 : (0 : Int) ≤ (k : Int) := by omega
  by_cases g1 : k < n
  ·have g1' : (k : Int) < (n : Int) := by omega
   have hlt : k < rows.length := by rw [HN.out]; exact g1
   have RW := HZ.out.below HB.out
   obtain ⟨c, rfl, cl, hcs⟩ : ∃ c, sl = some ⟨c, 0, none⟩ ∧ c < wr.heap.size ∧ ∀ i (h : i < rows.length), wr.cell? ⟨c, i, none⟩ = some rows[i].1 := by
    rcases RW.row with e | h
    ·rw [e] at hlt; simp at hlt
    ·exact h
   have hc := hcs k hlt
   obtain ⟨s1, k1, v1, -⟩ := RW.each rows[k] (List.getElem_mem hlt)
   rw [v1] at hc
   have QN := Lib.hid (show q + rows[k].2.length = (flatR (rows.take (k + 1))).length by rw [flatR_step rows k hlt, List.length_append, HQ.out])
   have hq2 : q + rows[k].2.length ≤ 1048576 := by rw [QN.out]; have := FL.out (k + 1); omega
   have BS := Lib.hid (show numR (rows.take (k + 1)) = bareC cs ++ [numF (q : Nat) rows[k].2.length] by rw [numR_step rows k hlt, BC.out, HQ.out])
   clear hcs v1 RW BC HQ
   generalize rows[k].2.length = r at *
   clear hlt
   obtain ⟨vsl, vcap, rfl⟩ := OC.out.v
   obtain ⟨w1, hw1⟩ : ∃ w1, w1 = wr := ⟨_, rfl⟩
   rw [← hw1] at OC HB cl hc ⊢
   clear hw1
   go_wp2
   go_loopw [4, 7, 16] (fun l v i wq => ∃ m : Nat, i = .int .i64 m ∧ m ≤ r ∧ l = .int .i64 ((q + m : Nat) : Int) ∧ Hid (wq.ownsRow w1.heap.size 2 1 v m (valsZ (numF (q : Nat) m))) ∧ Hid (Below w1.heap.size w1 wq)) (fun _ _ i _ => r - (intOf i).toNat)
   case atStart => exact ⟨0, rfl, Nat.zero_le _, rfl, ⟨rfl, .inl ⟨rfl, rfl⟩⟩, Below.refl _ _⟩
   case round =>
    obtain ⟨m, rfl, hm, rfl, OR, HB2⟩ := hrel
    have hm0 : (0 : Int) ≤ (m : Int) := by omega
    by_cases g2 : m < r
    ·have g2' : (m : Int) < (r : Int) := by omega
     have hqm : ((q + m : Nat) : Int) ≤ 1048576 := by omega
     have hqm0 : (0 : Int) ≤ ((q + m : Nat) : Int) := by omega
     have FS := Lib.hid (show valsZ (numF (q : Nat) m) ++ [.int .i64 (((q + m : Nat) : Int) + 1)] = valsZ (numF (q : Nat) (m + 1)) by rw [numF_step, valsZ_add]; simp [valsZ])
     have EQ := Lib.hid (show ((q + m : Nat) : Int) + 1 = ((q + (m + 1) : Nat) : Int) by omega)
     generalize ((q + m : Nat) : Int) = qm at *
     obtain ⟨osl, ocap, rfl⟩ := own_v OR.out
     have OL := Lib.hid (show ∀ j, (Value.slice osl m ocap).ownBlock = some j → w1.heap.size ≤ j from fun j hj => (OR.out.lt j hj).1)
     have hks := HB2.out.size
     generalize valsZ (numF (q : Nat) m) = xs at *
     go_wp2_with (first | (at_builtin; refine wpList_append_lies _ rfl (.tmp 20) (.tmp 22) 34 rfl w1.heap.size 2 i2 (.int .i64 0) 1 8 Tryz.underlying34 hi2 hb0 hb1 hb2 rfl (by decide) _ _ _ rfl (OR.out.alloc _) ⟨wr.heap.size, 0, none⟩ 1 1 [.int .i64 (qm + 1)] rfl rfl (cell_one_new _ _ _) (by intro u hu; simp at hu; subst hu; rfl) (by decide) (by unfold maxLen; omega) (by omega) (by simp; omega) (wr.heap.size + 1) (by simp) ?_))
     intro g9 cap9 w9 own9 grow9 hg9 hlt9
     rw [FS.out] at own9
     have O9 := Lib.hid own9
     have B9 := Lib.hid ((bA HB2.out (.cells #[.int .i64 (qm + 1)] 2)).grown grow9 (by simp; omega) (fun j hj => OL.out j hj))
     clear own9 grow9 hg9 hlt9 OR HB2 OL FS
     go_wp2
     go_roundw
     case rel => exact ⟨m + 1, by go_num, by omega, by rw [EQ.out], O9, B9⟩
     case measure => simp [intOf]; omega
    ·have g2' : ¬ (m : Int) < (r : Int) := by omega
     have em : m = r := by omega
     subst em
     have NL := Lib.hid (numF_len (q : Nat) m)
     obtain ⟨osl, ocap, rfl⟩ := own_v OR.out
     have O1 : Hid (wr.ownsRow w1.heap.size 2 1 (.slice osl m ocap) (numF (q : Nat) m).length (valsZ (numF (q : Nat) m))) := by rw [NL.out]; exact OR.out
     have hks := HB2.out.size
     have hks0 := HB.out.size
     have CV := Lib.hid ((OC.out.below HB2.out).row.alloc (.cells #[.slice osl m ocap] 34))
     have OL := Lib.hid (show ∀ j, (Value.slice vsl cs.length vcap).ownBlock = some j → w.heap.size ≤ j from fun j hj => (OC.out.row.lt j hj).1)
     have hcl2 : cs.length ≤ 400 := by omega
     clear OR
     go_wp2_with (first | (at_builtin; refine wpList_append_lies _ rfl (.tmp 25) (.tmp 27) 31 rfl w.heap.size 34 i4 (.slice none 0 0) 1 24 Tryz.underlying31 hi4 hd0 hd1 hd2 rfl (by decide) _ _ _ rfl CV.out ⟨wr.heap.size, 0, none⟩ 1 1 [.slice osl m ocap] rfl rfl (cell_at_new _ _ _) (by intro u hu; simp at hu; subst hu; rfl) (by decide) (by unfold maxLen; omega) (by omega) (by simp; omega) (wr.heap.size + 1) (by simp) ?_))
     intro g9 cap9 w9 own9 grow9 hg9 hlt9
     have BA := Lib.hid (bA HB2.out (.cells #[.slice osl m ocap] 34))
     have N9 : Hid (OwC w9 w.heap.size (.slice (some ⟨g9, 0, none⟩) (cs.length + 1) cap9) (cs ++ [(.slice osl m ocap, numF (q : Nat) m)])) :=
      OC.out.new BA.out (own_mono (O1.out.alloc _) hks0) (fun j hj => (O1.out.lt j hj).1) grow9 own9
     have B9 := Lib.hid ((bA (bT HB.out HB2.out) (.cells #[.slice osl m ocap] 34)).grown grow9 (by simp; omega) (fun j hj => OL.out j hj))
     have BN : Hid (bareC (cs ++ [(.slice osl m ocap, numF (q : Nat) m)]) = numR (rows.take (k + 1))) := by rw [BS.out, bareC_add]; rfl
     have LN : (cs ++ [((Value.slice osl m ocap, numF (q : Nat) m) : LCl)]).length ≤ k + 1 := by rw [List.length_append]; simp; omega
     clear own9 grow9 hg9 hlt9 CV OL BA O1 OC HB2 NL
     generalize cs ++ [((Value.slice osl m ocap, numF (q : Nat) m) : LCl)] = cs9 at *
     go_wp2
     go_roundw
     case rel => exact ⟨k + 1, q + m, cs9, by go_num, by omega, rfl, hq2, QN, N9, LN, BN, B9⟩
     case measure => simp [intOf]; omega
  ·have g1' : ¬ (k : Int) < (n : Int) := by omega
   have P := Lib.hid (show bareC cs = numR rows by rw [BC.out, List.take_of_length_le (by rw [HN.out]; omega)])
   clear BC
   go_wp2
   go_ret
   exact ⟨_, rfl, cs, OC.out, P.out, HB.out⟩
def VarB (zs : List Int) : Prop := ∀ z ∈ zs, 0 ≤ z ∧ z ≤ 1048576
set_option maxRecDepth 100000 in
set_option maxHeartbeats 4000000 in
theorem nt_any (sl : Option Addr) (cap : Nat) (zs : List Int) (w : World) (hn : zs.length ≤ 1000) (hcap : zs.length ≤ cap) (hv : VarB zs) (hz : Ints w sl zs) :
  Calls Tryz.prog 174 #[.slice sl zs.length cap] w fun e w' => ∃ v cs, e = .returned v ∧ OwC w' w.heap.size v cs ∧ bareC cs = twoF zs ∧ Below w.heap.size w w' := by
 obtain ⟨i4, hi4, hd0, hd1, hd2⟩ := info_parts info40
 have HZ := Lib.hid hz
 have HV := Lib.hid hv
 clear hz hv
 generalize hN : zs.length = n at *
 have HN := Lib.hid hN
 clear hN
 go_enter Tryz.func174, Tryz.ntmps174
 go_wp2
 go_loopw [3, 10] (fun v i wr => ∃ (k : Nat) (cs : List LCl), i = .int .i64 k ∧ k ≤ n ∧ Hid (OwC wr w.heap.size v cs) ∧ cs.length ≤ k * 1000 ∧ Hid (twoF zs = bareC cs ++ twoF (zs.drop k)) ∧ Hid (Below w.heap.size w wr)) (fun _ i _ => n - (intOf i).toNat)
 case atStart => exact ⟨0, [], rfl, Nat.zero_le _, OwC.nil _ _, Nat.zero_le _, rfl, Below.refl _ _⟩
 case round =>
  obtain ⟨k, cs, rfl, hk, OC, hcl, BC, HB⟩ := hrel
  have hk0 : (0 : Int) ≤ (k : Int) := by omega
  by_cases g1 : k < n
  ·have g1' : (k : Int) < (n : Int) := by omega
   have hlt : k < zs.length := by rw [HN.out]; exact g1
   obtain ⟨c, o, rfl, ZI⟩ : ∃ c o, sl = some ⟨c, o, none⟩ ∧ IntsAt w c o zs := by
    rcases HZ.out with e | h
    ·rw [e] at hlt; simp at hlt
    ·exact h
   have hc := (HB.out.cell (p := ⟨c, o + k, none⟩) ZI.1).trans (ZI.2 k hlt)
   have hxb := HV.out (zs.getD k 0) (by rw [List.getD_eq_getElem?_getD, List.getElem?_eq_getElem hlt]; exact List.getElem_mem hlt)
   have DS := Lib.hid (show twoF (zs.drop k) = (zs.drop (k + 1)).map (fun y => [-(zs.getD k 0), -y]) ++ twoF (zs.drop (k + 1)) by
    rw [← List.getElem_cons_drop (h := hlt), twoF]; simp [hlt])
   have ZA := Lib.hid ZI
   clear ZI hlt
   generalize zs.getD k 0 = x at *
   obtain ⟨x0, x1⟩ := hxb
   obtain ⟨vsl, vcap, rfl⟩ := OC.out.v
   obtain ⟨w1, hw1⟩ : ∃ w1, w1 = wr := ⟨_, rfl⟩
   rw [← hw1] at OC HB hc ⊢
   clear hw1
   by_cases hce : cap = k + 1
   ·have en : n = k + 1 := by omega
    subst hce
    have BN := Lib.hid (show twoF zs = bareC cs ++ twoF (zs.drop (k + 1)) by rw [BC.out, DS.out, List.drop_of_length_le (by rw [HN.out]; omega)]; rfl)
    clear BC DS
    go_wp2
    go_loopw [3, 20] (fun v i wq => v = .slice vsl cs.length vcap ∧ i = .int .i64 0 ∧ wq = w1) (fun _ _ _ => 0)
    case atStart => exact ⟨rfl, rfl, rfl⟩
    case round =>
     obtain ⟨rfl, rfl, rfl⟩ := hrel
     have g2' : ¬ (0 : Int) < ((n - (k + 1) : Nat) : Int) := by omega
     go_wp2
     go_roundw
     case rel => exact ⟨k + 1, cs, by go_num, by omega, OC, by omega, BN, HB⟩
     case measure => simp [intOf]; omega
   ·have hce' : ¬ cap = k + 1 := hce
    have BN := Lib.hid (show twoF zs = (bareC cs ++ (zs.drop (k + 1)).map (fun y => [-x, -y])) ++ twoF (zs.drop (k + 1)) by rw [BC.out, DS.out, List.append_assoc])
    clear BC DS
    have hr : n - (k + 1) + (k + 1) = n := by omega
    go_wp2
    generalize n - (k + 1) = r at *
    go_loopw [3, 20] (fun v i wq => ∃ (m : Nat) (ds : List LCl), i = .int .i64 m ∧ m ≤ r ∧ Hid (OwC wq w.heap.size v ds) ∧ ds.length ≤ k * 1000 + m ∧ Hid (bareC ds = bareC cs ++ ((zs.drop (k + 1)).take m).map (fun y => [-x, -y])) ∧ Hid (Below w.heap.size w wq)) (fun _ i _ => r - (intOf i).toNat)
    case atStart => exact ⟨0, cs, rfl, Nat.zero_le _, OC, by omega, (by show bareC cs = bareC cs ++ _; simp), HB⟩
    case round =>
     obtain ⟨m, ds, rfl, hm, OD, hdl, BD, HD⟩ := hrel
     have hm0 : (0 : Int) ≤ (m : Int) := by omega
     by_cases g2 : m < r
     ·have g2' : (m : Int) < (r : Int) := by omega
      have hlt : k + 1 + m < zs.length := by rw [HN.out]; omega
      have hc2 := (HD.out.cell (p := ⟨c, o + (k + 1 + m), none⟩) ZA.out.1).trans (ZA.out.2 (k + 1 + m) hlt)
      have hyb := HV.out (zs.getD (k + 1 + m) 0) (by rw [List.getD_eq_getElem?_getD, List.getElem?_eq_getElem hlt]; exact List.getElem_mem hlt)
      have TS := Lib.hid (show ((zs.drop (k + 1)).take (m + 1)).map (fun y => [-x, -y]) = ((zs.drop (k + 1)).take m).map (fun y => [-x, -y]) ++ [[-x, -(zs.getD (k + 1 + m) 0)]] by
       rw [List.take_succ_eq_append_getElem (by rw [List.length_drop]; omega), List.map_append]
       simp [hlt])
      rw [show o + (k + 1 + m) = o + (k + 1) + m by omega] at hc2
      clear hlt
      generalize zs.getD (k + 1 + m) 0 = y at *
      obtain ⟨y0, y1⟩ := hyb
      obtain ⟨dsl, dcap, rfl⟩ := OD.out.v
      have ON := Lib.hid ((own_two wr (-x) (-y)).alloc (.cells #[.slice (some ⟨wr.heap.size, 0, none⟩) 2 2] 34))
      have CV := Lib.hid ((OD.out.row.alloc (.cells #[.int .i64 (-x), .int .i64 (-y)] 2)).alloc (.cells #[.slice (some ⟨wr.heap.size, 0, none⟩) 2 2] 34))
      have OL := Lib.hid (show ∀ j, (Value.slice dsl ds.length dcap).ownBlock = some j → w.heap.size ≤ j from fun j hj => (OD.out.row.lt j hj).1)
      have hws := HD.out.size
      have hdl2 : ds.length ≤ 1001000 := by omega
      go_wp2_with (first | (at_builtin; refine wpList_append_lies _ rfl (.tmp 24) (.tmp 30) 31 rfl w.heap.size 34 i4 (.slice none 0 0) 1 24 Tryz.underlying31 hi4 hd0 hd1 hd2 rfl (by decide) _ _ _ rfl CV.out ⟨wr.heap.size + 1, 0, none⟩ 1 1 [.slice (some ⟨wr.heap.size, 0, none⟩) 2 2] (by simp [Act.eval]) rfl (cell_at_new' _ _ _ _) (by intro u hu; simp at hu; subst hu; rfl) (by decide) (by unfold maxLen; omega) (by omega) (by simp; omega) (wr.heap.size + 2) (by simp) ?_))
      intro g9 cap9 w9 own9 grow9 hg9 hlt9
      have BA := Lib.hid (bA (bA0 wr (.cells #[.int .i64 (-x), .int .i64 (-y)] 2)) (.cells #[.slice (some ⟨wr.heap.size, 0, none⟩) 2 2] 34))
      have N9 : Hid (OwC w9 w.heap.size (.slice (some ⟨g9, 0, none⟩) (ds.length + 1) cap9) (ds ++ [(.slice (some ⟨wr.heap.size, 0, none⟩) 2 2, [-x, -y])])) :=
       OD.out.new BA.out (own_mono ON.out hws) (fun j hj => (ON.out.lt j hj).1) grow9 own9
      have B9 := Lib.hid ((bA (bA HD.out (.cells #[.int .i64 (-x), .int .i64 (-y)] 2)) (.cells #[.slice (some ⟨wr.heap.size, 0, none⟩) 2 2] 34)).grown grow9 (by simp; omega) (fun j hj => OL.out j hj))
      have BN9 : Hid (bareC (ds ++ [(.slice (some ⟨wr.heap.size, 0, none⟩) 2 2, [-x, -y])]) = bareC cs ++ ((zs.drop (k + 1)).take (m + 1)).map (fun y => [-x, -y])) := by rw [TS.out, bareC_add, BD.out, List.append_assoc]; rfl
      have LN : (ds ++ [((Value.slice (some ⟨wr.heap.size, 0, none⟩) 2 2, [-x, -y]) : LCl)]).length ≤ k * 1000 + (m + 1) := by rw [List.length_append]; simp; omega
      clear own9 grow9 hg9 hlt9 CV OL BA ON OD HD BD TS
      generalize ds ++ [((Value.slice (some ⟨wr.heap.size, 0, none⟩) 2 2, [-x, -y]) : LCl)] = ds9 at *
      go_wp2
      go_roundw
      case rel => exact ⟨m + 1, ds9, by go_num, by omega, N9, LN, BN9, B9⟩
      case measure => simp [intOf]; omega
     ·have g2' : ¬ (m : Int) < (r : Int) := by omega
      have P := Lib.hid (show twoF zs = bareC ds ++ twoF (zs.drop (k + 1)) by
       rw [BN.out, BD.out, List.take_of_length_le (by rw [List.length_drop, HN.out]; omega)])
      have LN : ds.length ≤ (k + 1) * 1000 := by omega
      clear BD BN OC
      go_wp2
      go_roundw
      case rel => exact ⟨k + 1, ds, by go_num, by omega, OD, LN, P, HD⟩
      case measure => simp [intOf]; omega
  ·have g1' : ¬ (k : Int) < (n : Int) := by omega
   have P := Lib.hid (show bareC cs = twoF zs by rw [BC.out, List.drop_of_length_le (by rw [HN.out]; omega)]; simp [twoF])
   clear BC
   go_wp2
   go_ret
   exact ⟨_, rfl, cs, OC.out, P.out, HB.out⟩
end Go.Proofs.YtnihhbfgbilimaaGreatDoor
