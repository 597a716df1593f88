import Derived.Test.YtnihhbfgbilimaaGreatDoorKHah
namespace Go.Proofs.YtnihhbfgbilimaaGreatDoor
open Go.RowKit
set_option linter.unusedVariables false
open List (setIfInBounds_toArray set_cons_zero set_cons_succ getElem_toArray getElem_cons_succ getElem_cons_zero)
theorem pidsL_app (a b : List LPl) : pidsL (a ++ b) = pidsL a ++ pidsL b := by simp [pidsL]
theorem poP_get (qs : List LPl) (ts : List Int) (k : Nat) (h : k < ts.length) : (pidsL (poP qs ts)).getD k 0 = (qs.getD (ts.getD k 0 - 1).toNat (0, 0)).1 := by
 simp [pidsL, poP, h]
set_option maxRecDepth 100000 in
set_option maxHeartbeats 4000000 in
theorem spo_any (sl : Option Addr) (cap : Nat) (sl2 : Option Addr) (cap2 : Nat) (sl3 : Option Addr) (cap3 : Nat) (sl4 : Option Addr) (cap4 : Nat) (rs : List LSt) (ps : List LPr) (ids ts : List Int) (top : Int) (w : World) (hn : rs.length ≤ 1048576) (hl : ids.length ≤ 1048576) (hm : ts.length ≤ 1048576) (hz : Sts w sl rs) (hp : Prs w sl2 ps) (hi : Ints w sl3 ids) (ht : Ints w sl4 ts) :
  Calls Tryz.prog 73 #[TV sl rs.length cap sl2 ps.length cap2, .int .i64 top, .slice sl3 ids.length cap3, .slice sl4 ts.length cap4] w fun e w' => ∃ v, e = .returned v ∧ w'.ownsRow w.heap.size 131 2 v (poA rs ps top ids ts).length (enCells (poA rs ps top ids ts)) ∧ Below w.heap.size w w' := by
 obtain ⟨i3, hi3, hd0, hd1, hd2⟩ := info_parts info34
 have HT := Lib.hid (TabAtD.new w sl rs.length cap sl2 ps.length cap2)
 have B0 := Lib.hid (bA (bA0 w (.cells #[.slice sl rs.length cap, .slice sl2 ps.length cap2] 26)) (.cells #[] 131))
 have X0 := Lib.hid (HT.out.below (bA0 (w.alloc (.cells #[.slice sl rs.length cap, .slice sl2 ps.length cap2] 26)) (.cells #[] 131)))
 have O0 := Lib.hid (own_e34 (w.alloc (.cells #[.slice sl rs.length cap, .slice sl2 ps.length cap2] 26)))
 rw [show (w.alloc (.cells #[.slice sl rs.length cap, .slice sl2 ps.length cap2] 26)).heap.size = w.heap.size + 1 by simp] at O0
 have E1 : Hid (∀ W, Below w.heap.size w W → Calls Tryz.prog 56 #[TV sl rs.length cap sl2 ps.length cap2, .slice sl3 ids.length cap3] W fun e w' => e = .returned (.bool (B (IdsR rs ps ids))) ∧ Below W.heap.size W w') := fun W hW => sir_any sl cap sl2 cap2 sl3 cap3 rs ps ids W hn hl (hz.below hW) (hp.below hW) (hi.below hW)
 have E2 : Hid (∀ W, Below w.heap.size w W → Calls Tryz.prog 112 #[.slice sl4 ts.length cap4] W fun e w' => e = .returned (.bool (B (RiseTo ts ts.length))) ∧ Below W.heap.size W w') := fun W hW => ri_any sl4 cap4 ts W hm (ht.below hW)
 have E3 : Hid (∀ q : Int, ∀ W, Below w.heap.size w W → Calls Tryz.prog 135 #[.slice sl4 ts.length cap4, .int .i64 1, .int .i64 q] W fun e w' => e = .returned (.bool (ts.all (inB 1 q))) ∧ w' = W) := fun q W hW => l01All_any 1 q sl4 cap4 ts W (by unfold maxLen; omega) (ht.below hW)
 by_cases h5 : 400 < ids.length
 ·have h5' : (400 : Int) < (ids.length : Int) := by omega
  rw [poA_no (fun g => by have := g.2.1.1; omega)]
  have P := Lib.hid (own_mono O0.out (Nat.le_succ w.heap.size))
  clear hz hp hi ht E1 E2 E3 O0 X0 HT
  generalize rs.length = rn at *
  generalize ps.length = pn at *
  generalize ids.length = n at *
  generalize ts.length = m at *
  go_enter Tryz.func73, Tryz.ntmps73
  go_wp2
  go_ret
  exact ⟨_, rfl, P.out, B0.out⟩
 have h5' : ¬ (400 : Int) < (ids.length : Int) := by omega
 by_cases h4 : 400 < ts.length
 ·have h4' : (400 : Int) < (ts.length : Int) := by omega
  rw [poA_no (fun g => by have := g.1; omega)]
  have P := Lib.hid (own_mono O0.out (Nat.le_succ w.heap.size))
  clear hz hp hi ht E1 E2 E3 O0 X0 HT
  generalize rs.length = rn at *
  generalize ps.length = pn at *
  generalize ids.length = n at *
  generalize ts.length = m at *
  go_enter Tryz.func73, Tryz.ntmps73
  go_wp2
  go_ret
  exact ⟨_, rfl, P.out, B0.out⟩
 have h4' : ¬ (400 : Int) < (ts.length : Int) := by omega
 cases hb : B (IdsR rs ps ids) with
 | false =>
  rw [poA_no (fun g => B_false hb g.2.1)]
  rw [hb] at E1
  have P := Lib.hid (own_mono O0.out (Nat.le_succ w.heap.size))
  clear hb hz hp hi ht E2 E3 HT X0 O0
  generalize rs.length = rn at *
  generalize ps.length = pn at *
  generalize ids.length = n at *
  generalize ts.length = m at *
  go_enter Tryz.func73, Tryz.ntmps73
  go_wp2_with fail
  refine (E1.out _ B0.out).mono ?_
  rintro e w1 ⟨rfl, b1⟩
  have D1 := Lib.hid (bT B0.out b1)
  have P1 := Lib.hid (own_below P.out b1)
  clear b1 E1 P
  go_wp2
  go_ret
  exact ⟨_, rfl, P1.out, D1.out⟩
 | true =>
  rw [hb] at E1
  have IR := B_true hb
  have hpl : (plF rs top ids).length ≤ 38400 := by
   have := plF_le top ids IR.2.1
   have := IR.1
   omega
  have E4 : Hid (∀ W, Below w.heap.size w W → Calls Tryz.prog 133 #[TV sl rs.length cap sl2 ps.length cap2, .int .i64 top, .slice sl3 ids.length cap3] W fun e w' => ∃ s c, e = .returned (.slice s (plF rs top ids).length c) ∧ w'.ownsRow W.heap.size 131 2 (.slice s (plF rs top ids).length c) (plF rs top ids).length (enCells (plF rs top ids)) ∧ Below W.heap.size W w') := fun W hW => by
   have := vars_any sl cap sl2 cap2 sl3 cap3 rs ps top ids W hn IR.1 (hz.below hW) (hp.below hW) IR.2.1 (hi.below hW)
   refine this.mono ?_
   rintro e w' ⟨v, rfl, o, bl⟩
   obtain ⟨s, c, rfl⟩ := own_v o
   exact ⟨s, c, rfl, o, bl⟩
  cases hr : B (RiseTo ts ts.length) with
  | false =>
   rw [poA_no (fun g => B_false hr ((InRise.iff 1 _ ts).1 g.2.2.1).1)]
   rw [hr] at E2
   clear hr E3
   clear hb hz hp hi ht IR
   generalize hPQ : plF rs top ids = qs at *
   clear hPQ
   generalize rs.length = rn at *
   generalize ps.length = pn at *
   generalize ids.length = n at *
   generalize ts.length = m at *
   go_enter Tryz.func73, Tryz.ntmps73
   go_wp2_with fail
   refine (E1.out _ B0.out).mono ?_
   rintro e w1 ⟨rfl, b1⟩
   have D1 := Lib.hid (bT B0.out b1)
   have TA := X0.out.below b1
   obtain ⟨t0, t1⟩ := TA.cells
   have tl := TA.lt
   have O1 := Lib.hid (own_below O0.out b1)
   clear b1 E1 TA HT X0 O0
   go_wp2_with fail
   refine (E4.out _ D1.out).mono ?_
   rintro e w5 ⟨s5, c5, rfl, o5, b5⟩
   have D5 := Lib.hid (bT D1.out b5)
   have OO := Lib.hid (own_below O1.out b5)
   have O5 := Lib.hid o5
   clear o5 b5 E4 t0 t1 tl O1
   go_wp2_with fail
   refine (E2.out _ D5.out).mono ?_
   rintro e w6 ⟨rfl, b6⟩
   have D6 := Lib.hid (bT D5.out b6)
   have O6 := Lib.hid (own_below OO.out b6)
   have Z6 := Lib.hid (own_below O5.out b6)
   clear b6 E2 OO O5
   have P := Lib.hid (own_mono O6.out (Nat.le_succ w.heap.size))
   go_wp2
   go_ret
   exact ⟨_, rfl, P.out, D6.out⟩
  | true =>
   rw [hr] at E2
   cases ha : ts.all (inB 1 (plF rs top ids).length) with
   | false =>
    rw [poA_no (fun g => by have := ((InRise.iff 1 _ ts).1 g.2.2.1).2; rw [ha] at this; cases this)]
    have E3' : Hid (∀ W, Below w.heap.size w W → Calls Tryz.prog 135 #[.slice sl4 ts.length cap4, .int .i64 1, .int .i64 ((plF rs top ids).length : Int)] W fun e w' => e = .returned (.bool false) ∧ w' = W) := fun W hW => by
     have := E3.out ((plF rs top ids).length : Int) W hW
     rwa [ha] at this
    clear hr ha E3
    clear hb hz hp hi ht IR
    generalize hPQ : plF rs top ids = qs at *
    clear hPQ
    generalize rs.length = rn at *
    generalize ps.length = pn at *
    generalize ids.length = n at *
    generalize ts.length = m at *
    go_enter Tryz.func73, Tryz.ntmps73
    go_wp2_with fail
    refine (E1.out _ B0.out).mono ?_
    rintro e w1 ⟨rfl, b1⟩
    have D1 := Lib.hid (bT B0.out b1)
    have TA := X0.out.below b1
    obtain ⟨t0, t1⟩ := TA.cells
    have tl := TA.lt
    have O1 := Lib.hid (own_below O0.out b1)
    clear b1 E1 TA HT X0 O0
    go_wp2_with fail
    refine (E4.out _ D1.out).mono ?_
    rintro e w5 ⟨s5, c5, rfl, o5, b5⟩
    have D5 := Lib.hid (bT D1.out b5)
    have OO := Lib.hid (own_below O1.out b5)
    have O5 := Lib.hid o5
    clear o5 b5 E4 t0 t1 tl O1
    go_wp2_with fail
    refine (E2.out _ D5.out).mono ?_
    rintro e w6 ⟨rfl, b6⟩
    have D6 := Lib.hid (bT D5.out b6)
    have O6 := Lib.hid (own_below OO.out b6)
    have Z6 := Lib.hid (own_below O5.out b6)
    clear b6 E2 OO O5
    go_wp2_with fail
    refine (E3'.out _ D6.out).mono ?_
    rintro e w7 ⟨rfl, rfl⟩
    have P := Lib.hid (own_mono O6.out (Nat.le_succ w.heap.size))
    go_wp2
    go_ret
    exact ⟨_, rfl, P.out, D6.out⟩
   | true =>
    have IT := Lib.hid ((InRise.iff 1 ((plF rs top ids).length : Int) ts).2 ⟨B_true hr, ha⟩)
    have E3' : Hid (∀ W, Below w.heap.size w W → Calls Tryz.prog 135 #[.slice sl4 ts.length cap4, .int .i64 1, .int .i64 ((plF rs top ids).length : Int)] W fun e w' => e = .returned (.bool true) ∧ w' = W) := fun W hW => by
     have := E3.out ((plF rs top ids).length : Int) W hW
     rwa [ha] at this
    clear hr ha E3
    by_cases hlen : ts.length = ids.length
    ·have YY := Lib.hid (show pidsL (poP (plF rs top ids) ts) = ids → poA rs ps top ids ts = poP (plF rs top ids) ts from fun e => poA_yes ⟨by omega, IR, IT.out, e⟩)
     have NN := Lib.hid (show ∀ k, (pidsL (poP (plF rs top ids) ts)).getD k 0 ≠ ids.getD k 0 → poA rs ps top ids ts = [] from fun k e => poA_no (fun g => e (by rw [g.2.2.2])))
     have hlen' : ((ts.length : Int) != (ts.length : Int)) = false := by simp
     have HTS := Lib.hid ht
     have HIS := Lib.hid hi
     have HLL := Lib.hid hlen
     clear hb hz hp hi ht IR
     rw [← hlen] at E1 E4 h5' ⊢
     rw [← hlen] at hl h5
     clear hlen
     generalize poA rs ps top ids ts = ans at *
     generalize plF rs top ids = qs at *
     generalize rs.length = rn at *
     generalize ps.length = pn at *
     generalize hM : ts.length = m at *
     have HM := Lib.hid hM
     clear hM
     generalize hQ : qs.length = q at *
     have HQ := Lib.hid hQ
     clear hQ
     go_enter Tryz.func73, Tryz.ntmps73
     go_wp2_with fail
     refine (E1.out _ B0.out).mono ?_
     rintro e w1 ⟨rfl, b1⟩
     have D1 := Lib.hid (bT B0.out b1)
     have TA := X0.out.below b1
     obtain ⟨t0, t1⟩ := TA.cells
     have tl := TA.lt
     have O1 := Lib.hid (own_below O0.out b1)
     clear b1 E1 TA HT X0 O0
     go_wp2_with fail
     refine (E4.out _ D1.out).mono ?_
     rintro e w5 ⟨s5, c5, rfl, o5, b5⟩
     have D5 := Lib.hid (bT D1.out b5)
     have OO := Lib.hid (own_below O1.out b5)
     obtain ⟨wb, hwb⟩ : ∃ wb, wb = w1.heap.size := ⟨_, rfl⟩
     rw [← hwb] at o5
     have O5 := Lib.hid o5
     have hwb2 : w.heap.size + 1 < wb := by
      rw [hwb]
      exact (O1.out.lt (w.heap.size + 1) rfl).2
     clear o5 b5 E4 t0 t1 tl O1 hwb D1
     go_wp2_with fail
     refine (E2.out _ D5.out).mono ?_
     rintro e w6 ⟨rfl, b6⟩
     have D6 := Lib.hid (bT D5.out b6)
     have O6 := Lib.hid (own_below OO.out b6)
     have Z6 := Lib.hid (own_below O5.out b6)
     clear b6 E2 OO O5 D5
     go_wp2_with fail
     refine (E3'.out _ D6.out).mono ?_
     rintro e w7 ⟨rfl, rfl⟩
     clear E3'
     have NE0 := Lib.hid (show ∀ jj, (Value.slice s5 q c5).ownBlock = some jj → w.heap.size + 1 < jj ∧ jj < w7.heap.size from fun jj hj => by have := Z6.out.lt jj hj; omega)
     have hw7 := (O6.out.lt (w.heap.size + 1) rfl).2
     go_wp2
     go_loopw [9, 11] (fun v i wr => ∃ (k : Nat) (cu : List LPl), i = .int .i64 k ∧ k ≤ m ∧ cu.length ≤ k ∧ Hid (cu = poP qs (ts.take k) ∧ pidsL cu = ids.take k) ∧ Hid (wr.ownsRow (w.heap.size + 1) 131 2 v cu.length (enCells cu)) ∧ Hid (wr.ownsRow wb 131 2 (.slice s5 q c5) q (enCells qs)) ∧ Hid (∀ jj, v.ownBlock = some jj → (Value.slice s5 q c5).ownBlock ≠ some jj) ∧ Hid (Below (w.heap.size + 1) w7 wr)) (fun _ i _ => m - (intOf i).toNat)
     case atStart => exact ⟨0, [], rfl, Nat.zero_le _, Nat.zero_le _, ⟨rfl, rfl⟩, O6, Z6, (fun jj hj e => by have := NE0.out jj e; simp [Value.ownBlock] at hj; omega), Below.refl _ _⟩
     case round =>
      obtain ⟨k, cu, rfl, hk, hcl, HC, OR, OZ, NE, HB⟩ := hrel
      have hk0 : (0 : Int) ≤ (k : Int) := by omega
      have DW := Lib.hid (D6.out.trans (HB.out.mono (Nat.le_succ _)))
      have hsw := HB.out.size
      by_cases g1 : k < m
      ·have g1' : (k : Int) < (m : Int) := by omega
       have hlt : k < ts.length := by rw [HM.out]; exact g1
       have hlti : k < ids.length := by rw [← HLL.out]; exact g1
       obtain ⟨g, o, rfl, TI⟩ : ∃ g o, sl4 = some ⟨g, o, none⟩ ∧ IntsAt w g o ts := by
        rcases HTS.out with e | h
        ·rw [e] at hlt; simp at hlt
        ·exact h
       obtain ⟨gi, oi, rfl, II⟩ : ∃ g o, sl3 = some ⟨g, o, none⟩ ∧ IntsAt w g o ids := by
        rcases HIS.out with e | h
        ·rw [e] at hlti; simp at hlti
        ·exact h
       have hc := (DW.out.cell (p := ⟨g, o + k, none⟩) TI.1).trans (TI.2 k hlt)
       have hci := (DW.out.cell (p := ⟨gi, oi + k, none⟩) II.1).trans (II.2 k hlti)
       have gl : g < wr.heap.size := Nat.lt_of_lt_of_le TI.1 DW.out.size
       have gil : gi < wr.heap.size := Nat.lt_of_lt_of_le II.1 DW.out.size
       have hzb := (IT.out k hlt).1
       have PS := Lib.hid (poP_step qs ts k hlt)
       have PG := Lib.hid (poP_get qs ts k hlt)
       have IS := Lib.hid (show ids.take (k + 1) = ids.take k ++ [ids.getD k 0] by rw [List.take_succ_eq_append_getElem hlti]; simp [hlti])
       have NK := Lib.hid (NN.out k)
       rw [PG.out] at NK
       clear hlt hlti TI II PG
       generalize ts.getD k 0 = z at *
       generalize ids.getD k 0 = x at *
       obtain ⟨z1, z2⟩ := hzb
       obtain ⟨j, rfl⟩ : ∃ j : Nat, z = (j : Int) + 1 := ⟨(z - 1).toNat, by omega⟩
       have hjq : j < q := by omega
       have hjn : ((j : Int) + 1 - 1).toNat = j := by omega
       have hlt2 : j < qs.length := by rw [HQ.out]; exact hjq
       obtain ⟨a, b, hpj⟩ : ∃ a b, qs[j] = (a, b) := ⟨_, _, rfl⟩
       have GD : qs.getD j (0, 0) = (a, b) := by rw [← hpj]; simp [hlt2]
       rw [hjn, GD] at PS NK
       have EC := enCells_at qs j hlt2
       rw [hpj] at EC
       dsimp only at EC
       obtain ⟨c, rfl, cl, d0, d1⟩ : ∃ c, s5 = some ⟨c, 0, none⟩ ∧ c < wr.heap.size ∧ wr.cell? ⟨c, j * 2, none⟩ = some (.int .i64 a) ∧ wr.cell? ⟨c, j * 2 + 1, none⟩ = some (.int .i64 b) := by
        have hZ2 := OZ.out
        rcases hZ2.2 with ⟨_, h0⟩ | ⟨g, cp, cur, hv, _, hg, _⟩
        ·omega
        ·obtain rfl : s5 = some ⟨g, 0, none⟩ := (Value.slice.inj hv).1
         exact ⟨g, rfl, (Array.getElem?_eq_some_iff.1 hg).1, by rw [hZ2.cellAt (j * 2) (by omega), EC.1], by rw [hZ2.cellAt (j * 2 + 1) (by omega), EC.2]⟩
       have hjz : (0 : Int) ≤ (j : Int) := by omega
       have hjz2 : (j : Int) < (q : Int) := by omega
       have hwj : IntKind.i64.wrap (j : Int) = (j : Int) := by rw [IntKind.wrap_i64]; omega
       have KB : Hid (g < wr.drew.heap.size ∧ c < wr.drew.heap.size ∧ gi < wr.drew.heap.size ∧ wr.drew.cell? ⟨g, o + k, none⟩ = some (.int .i64 ((j : Int) + 1)) ∧ wr.drew.cell? ⟨c, j * 2, none⟩ = some (.int .i64 a) ∧ wr.drew.cell? ⟨gi, oi + k, none⟩ = some (.int .i64 x)) := ⟨gl, cl, gil, hc, d0, hci⟩
       clear hlt2 EC GD hpj hjn z1 z2
       by_cases hax : a = x
       ·have hax' : (a != x) = false := by rw [hax]; simp
        have CS := Lib.hid (show cu ++ [(a, b)] = poP qs (ts.take (k + 1)) ∧ pidsL (cu ++ [(a, b)]) = ids.take (k + 1) from ⟨by rw [PS.out, HC.out.1], by rw [pidsL_app, HC.out.2, IS.out]; simp [pidsL, hax]⟩)
        have EV := Lib.hid (show enCells cu ++ [.int .i64 a, .int .i64 b] = enCells (cu ++ [(a, b)]) from (enCells_add cu (a, b)).symm)
        have O2 : Hid (wr.drew.ownsRow (w.heap.size + 1) 131 2 _ cu.length (enCells cu)) := OR.out
        have Z2 : Hid (wr.drew.ownsRow wb 131 2 (.slice (some ⟨c, 0, none⟩) q c5) q (enCells qs)) := OZ.out
        have H2 := Lib.hid HB.out.drew
        have hcd : wr.drew.cell? ⟨g, o + k, none⟩ = some (.int .i64 ((j : Int) + 1)) := hc
        have hdd0 : wr.drew.cell? ⟨c, j * 2, none⟩ = some (.int .i64 a) := d0
        have hdd1 : wr.drew.cell? ⟨c, j * 2 + 1, none⟩ = some (.int .i64 b) := d1
        have hgd : g < wr.drew.heap.size := gl
        have hcld : c < wr.drew.heap.size := cl
        clear hax PS IS NK HC OR OZ HB DW hc hci d0 d1
        go_wp2_with fail
        refine wp_region_held_drew (S := fun W => g < W.heap.size ∧ c < W.heap.size ∧ gi < W.heap.size ∧ W.cell? ⟨g, o + k, none⟩ = some (.int .i64 ((j : Int) + 1)) ∧ W.cell? ⟨c, j * 2, none⟩ = some (.int .i64 a) ∧ W.cell? ⟨gi, oi + k, none⟩ = some (.int .i64 x)) (by kernel_rfl) ?_ (fun hHeld => ?_)
        ·exact KB.out
        refine tw (i := 0) rfl ?_
        refine tw (i := 1) rfl ?_
        refine tw (i := 2) rfl ?_
        refine tw (i := 3) rfl ?_
        try simp only [Act.put, setIfInBounds_toArray, set_cons_zero, set_cons_succ, getElem_toArray, getElem_cons_succ, getElem_cons_zero]
        refine tw (i := 4) rfl ?_
        refine tw (i := 5) rfl ?_
        refine tw (i := 6) rfl ?_
        refine tw (i := 7) rfl ?_
        try simp only [Act.put, setIfInBounds_toArray, set_cons_zero, set_cons_succ, getElem_toArray, getElem_cons_succ, getElem_cons_zero]
        refine tw (i := 8) rfl ?_
        refine tw (i := 9) rfl ?_
        refine tw (i := 10) rfl ?_
        refine tw (i := 11) rfl ?_
        try simp only [Act.put, setIfInBounds_toArray, set_cons_zero, set_cons_succ, getElem_toArray, getElem_cons_succ, getElem_cons_zero]
        refine tw (i := 12) rfl ?_
        refine tw (i := 13) rfl ?_
        try simp only [Act.put, setIfInBounds_toArray, set_cons_zero, set_cons_succ, getElem_toArray, getElem_cons_succ, getElem_cons_zero]
        refine wpAnyH_done (by kernel_rfl) ?_ _
        go_wp2_with (first | (at_builtin; refine wpList_append_lies _ rfl (.tmp 71) (.tmp 80) 28 rfl (w.heap.size + 1) 131 i3 (.agg #[.int .i64 0, .int .i64 0]) 2 16 Tryz.underlying28 hi3 hd0 hd1 hd2 rfl (by decide) _ _ _ rfl (O2.out.alloc _) ⟨wr.heap.size, 0, none⟩ 1 1 [.int .i64 a, .int .i64 b] rfl rfl (cell_two_new wr.drew _ _ _) (by intro u hu; simp at hu; rcases hu with rfl | rfl <;> rfl) (by decide) (by unfold maxLen; omega) (by omega) (by simp; omega) (wr.heap.size + 1) (by simp) ?_))
        intro g9 cap9 w9 own9 grow9 hg9 hlt9
        have B9 := Lib.hid ((bA1 H2.out (.cells #[.int .i64 a, .int .i64 b] 131) (by show w.heap.size + 1 ≤ wr.heap.size; omega)).grown grow9 (by show w.heap.size + 1 ≤ (wr.drew.alloc _).heap.size; simp; omega) (fun jj hj => (O2.out.lt jj hj).1))
        have Z9 := Lib.hid ((Z2.out.alloc (.cells #[.int .i64 a, .int .i64 b] 131)).kept grow9 (.inr (fun e => NE.out c e.symm rfl)))
        have NE9 : Hid (∀ jj, (Value.slice (some ⟨g9, 0, none⟩) (cu.length + 1) cap9).ownBlock = some jj → (Value.slice (some ⟨c, 0, none⟩) q c5).ownBlock ≠ some jj) := fun jj hj => by
         obtain rfl : g9 = jj := by simpa [Value.ownBlock] using hj
         rcases hg9 with h | h
         ·exact NE.out _ h
         ·intro e
          have : c = g9 := by simpa [Value.ownBlock] using e
          omega
        rw [EV.out] at own9
        have N9 : Hid (w9.ownsRow (w.heap.size + 1) 131 2 (.slice (some ⟨g9, 0, none⟩) (cu.length + 1) cap9) (cu ++ [(a, b)]).length (enCells (cu ++ [(a, b)]))) := by
         rw [List.length_append]; exact own9
        have LL := Lib.hid (show (cu ++ [(a, b)]).length ≤ k + 1 by rw [List.length_append]; simp; omega)
        clear own9 grow9 hg9 hlt9 O2 Z2 H2 EV NE
        go_wp2
        go_roundw
        case rel => exact ⟨k + 1, cu ++ [(a, b)], by go_num, by omega, LL.out, CS, N9, Z9, NE9, B9⟩
        case measure => simp [intOf]; omega
       ·have hax' : (a != x) = true := by simpa using hax
        have AN := Lib.hid (NK.out hax)
        have D9 := Lib.hid (bA DW.out.drew (.cells #[] 131))
        have O9 := Lib.hid (own_mono (own_e34 wr.drew) (show w.heap.size ≤ wr.drew.heap.size from DW.out.size))
        clear hax PS IS NK HC OR OZ HB DW hc hci d0 d1
        go_wp2_with fail
        refine wp_region_held_drew (S := fun W => g < W.heap.size ∧ c < W.heap.size ∧ gi < W.heap.size ∧ W.cell? ⟨g, o + k, none⟩ = some (.int .i64 ((j : Int) + 1)) ∧ W.cell? ⟨c, j * 2, none⟩ = some (.int .i64 a) ∧ W.cell? ⟨gi, oi + k, none⟩ = some (.int .i64 x)) (by kernel_rfl) ?_ (fun hHeld => ?_)
        ·exact KB.out
        refine tw (i := 0) rfl ?_
        refine tw (i := 1) rfl ?_
        refine tw (i := 2) rfl ?_
        refine tw (i := 3) rfl ?_
        try simp only [Act.put, setIfInBounds_toArray, set_cons_zero, set_cons_succ, getElem_toArray, getElem_cons_succ, getElem_cons_zero]
        refine tw (i := 4) rfl ?_
        refine tw (i := 5) rfl ?_
        refine tw (i := 6) rfl ?_
        refine tw (i := 7) rfl ?_
        try simp only [Act.put, setIfInBounds_toArray, set_cons_zero, set_cons_succ, getElem_toArray, getElem_cons_succ, getElem_cons_zero]
        refine tw (i := 8) rfl ?_
        refine tw (i := 9) rfl ?_
        refine tw (i := 10) rfl ?_
        refine tw (i := 11) rfl ?_
        try simp only [Act.put, setIfInBounds_toArray, set_cons_zero, set_cons_succ, getElem_toArray, getElem_cons_succ, getElem_cons_zero]
        refine tw (i := 12) rfl ?_
        refine tw (i := 13) rfl ?_
        try simp only [Act.put, setIfInBounds_toArray, set_cons_zero, set_cons_succ, getElem_toArray, getElem_cons_succ, getElem_cons_zero]
        refine wpAnyH_done (by kernel_rfl) ?_ _
        go_wp2
        go_ret
        exact ⟨_, rfl, by rw [AN.out]; exact O9.out, D9.out⟩
      ·have g1' : ¬ (k : Int) < (m : Int) := by omega
       have e1 : cu = poP qs ts := by rw [HC.out.1, List.take_of_length_le (by rw [HM.out]; omega)]
       have e2 : pidsL (poP qs ts) = ids := by rw [← e1, HC.out.2, List.take_of_length_le (by rw [← HLL.out]; omega)]
       have AN := Lib.hid ((YY.out e2).trans e1.symm)
       have P := Lib.hid (own_mono OR.out (Nat.le_succ w.heap.size))
       clear OR HC OZ e1 e2
       go_wp2
       go_ret
       exact ⟨_, rfl, by rw [AN.out]; exact P.out, DW.out⟩
    ·have hlen' : ((ts.length : Int) != (ids.length : Int)) = true := by simpa using (show ¬ (ts.length : Int) = (ids.length : Int) by omega)
     rw [poA_no (fun g => hlen (by have := congrArg List.length g.2.2.2; simpa [pidsL, poP] using this))]
     clear hlen IT
     clear hb hz hp hi ht IR
     generalize hPQ : plF rs top ids = qs at *
     clear hPQ
     generalize rs.length = rn at *
     generalize ps.length = pn at *
     generalize ids.length = n at *
     generalize ts.length = m at *
     go_enter Tryz.func73, Tryz.ntmps73
     go_wp2_with fail
     refine (E1.out _ B0.out).mono ?_
     rintro e w1 ⟨rfl, b1⟩
     have D1 := Lib.hid (bT B0.out b1)
     have TA := X0.out.below b1
     obtain ⟨t0, t1⟩ := TA.cells
     have tl := TA.lt
     have O1 := Lib.hid (own_below O0.out b1)
     clear b1 E1 TA HT X0 O0
     go_wp2_with fail
     refine (E4.out _ D1.out).mono ?_
     rintro e w5 ⟨s5, c5, rfl, o5, b5⟩
     have D5 := Lib.hid (bT D1.out b5)
     have OO := Lib.hid (own_below O1.out b5)
     have O5 := Lib.hid o5
     clear o5 b5 E4 t0 t1 tl O1
     go_wp2_with fail
     refine (E2.out _ D5.out).mono ?_
     rintro e w6 ⟨rfl, b6⟩
     have D6 := Lib.hid (bT D5.out b6)
     have O6 := Lib.hid (own_below OO.out b6)
     have Z6 := Lib.hid (own_below O5.out b6)
     clear b6 E2 OO O5
     go_wp2_with fail
     refine (E3'.out _ D6.out).mono ?_
     rintro e w7 ⟨rfl, rfl⟩
     have P := Lib.hid (own_mono O6.out (Nat.le_succ w.heap.size))
     go_wp2
     go_ret
     exact ⟨_, rfl, P.out, D6.out⟩
end Go.Proofs.YtnihhbfgbilimaaGreatDoor
