import Derived.Test.YtnihhbfgbilimaaGreatDoorHab
namespace Go.Proofs.YtnihhbfgbilimaaGreatDoor
open Go.RowKit
set_option linter.unusedVariables false
def totD (rs : List LSt) : Nat := (rs.map fun r => r.2.2.2.length).sum
theorem totD_mem (rs : List LSt) (r : LSt) (h : r ∈ rs) : r.2.2.2.length ≤ totD rs := by
 induction rs with
 | nil => cases h
 | cons a l ih =>
  rcases List.mem_cons.1 h with rfl | h
  ·simp [totD]
  ·have := ih h; simp only [totD, List.map_cons, List.sum_cons] at *; omega
theorem Row3.there {w : World} {b : Nat} {t : TypeId} {n : Nat} {ts : List (Value × Value × Value)} (h : Row3 w b t n ts) (j : Nat) (hj : j < n * 3) : (∃ v, w.cell? ⟨b, j, none⟩ = some v) ∧ w.frozen? ⟨b, j, none⟩ = false := by
 obtain ⟨vs, h1, h2, h3⟩ := h
 exact ⟨⟨vs[j]'(by omega), by simp [World.cell?, h1, show j < vs.size by omega]⟩, by simp [World.frozen?, h1]⟩
theorem Row3.step {w : World} {b : Nat} {t : TypeId} {n : Nat} {ts : List (Value × Value × Value)} (h : Row3 w b t n ts) (hl : ts.length < n) (x y z : Value) (k : Nat) (hk : k = ts.length) :
  Row3 (((w.setCell ⟨b, k * 3, none⟩ x).setCell ⟨b, k * 3 + 1, none⟩ y).setCell ⟨b, k * 3 + 2, none⟩ z) b t n (ts ++ [(x, y, z)]) := by
 subst hk
 obtain ⟨vs, h1, h2, h3⟩ := h
 refine ⟨_, heap_setCell_same _ b _ _ t _ (heap_setCell_same _ b _ _ t _ (heap_setCell_same w b _ vs t x h1)), by simp [h2], fun i hi => ?_⟩
 simp only [List.length_append, List.length_singleton] at hi
 by_cases e : i < ts.length
 ·obtain ⟨a1, a2, a3⟩ := h3 i e
  simp only [List.getElem_append_left e]
  refine ⟨?_, ?_, ?_⟩
  ·rw [Array.getElem?_setIfInBounds_ne (by omega), Array.getElem?_setIfInBounds_ne (by omega), Array.getElem?_setIfInBounds_ne (by omega)]; exact a1
  ·rw [Array.getElem?_setIfInBounds_ne (by omega), Array.getElem?_setIfInBounds_ne (by omega), Array.getElem?_setIfInBounds_ne (by omega)]; exact a2
  ·rw [Array.getElem?_setIfInBounds_ne (by omega), Array.getElem?_setIfInBounds_ne (by omega), Array.getElem?_setIfInBounds_ne (by omega)]; exact a3
 ·have e' : i = ts.length := by omega
  subst e'
  simp only [List.getElem_append_right (Nat.le_refl _), Nat.sub_self, List.getElem_cons_zero]
  refine ⟨?_, ?_, ?_⟩
  ·rw [Array.getElem?_setIfInBounds_ne (by omega), Array.getElem?_setIfInBounds_ne (by omega), Array.getElem?_setIfInBounds_self_of_lt (by omega)]
  ·rw [Array.getElem?_setIfInBounds_ne (by omega), Array.getElem?_setIfInBounds_self_of_lt (by simp; omega)]
  ·rw [Array.getElem?_setIfInBounds_self_of_lt (by simp; omega)]
theorem flat_step {α β : Type} (f : α → List β) (rs : List α) (k : Nat) (h : k < rs.length) : (rs.take (k + 1)).flatMap f = (rs.take k).flatMap f ++ f rs[k] := by
 rw [List.take_succ_eq_append_getElem h, List.flatMap_append]
 simp
theorem own_apart {w : World} {C : Nat} {v : Value} {n : Nat} {xs : List Value} (h : w.ownsRow C 2 1 v n xs) {b : Nat} {cs : Array Value} {t : TypeId} (hb : w.heap[b]? = some (.cells cs t)) (ht : t ≠ 2) : v.ownBlock ≠ some b := by
 rcases h.2 with ⟨rfl, _⟩ | ⟨g, cap, cur, rfl, _, hg, _⟩
 ·intro e; cases e
 ·intro e
  cases e
  rw [hb] at hg
  simp at hg
  exact ht hg.2
theorem SAt.grow {w : World} {b : Nat} {x y : Int} {d : Value} (h : SAt w b x y d) {o : Obj} {w' : World} {v : Value} (hg : (w.alloc o).grownBy w' v.ownBlock) (hv : v.ownBlock ≠ some b) : SAt w' b x y d :=
 (hg.block b (by simp; exact Nat.lt_succ_of_lt h.lt) (fun e => hv e.symm)).trans ((Below.heap_alloc _ _ _ h.lt).trans h)
set_option maxRecDepth 100000 in
set_option maxHeartbeats 1000000 in
theorem din_any (sl : Option Addr) (cap : Nat) (sl2 : Option Addr) (cap2 : Nat) (rs : List LSt) (ps : List LPr) (id top : Int) (w : World) (hz : Sts w sl rs) (TR0 : TabR rs ps) :
  Calls Tryz.prog 181 #[TV sl rs.length cap sl2 ps.length cap2, .int .i64 id, .int .i64 top] w fun e w' => ∃ v, e = .returned v ∧ w'.ownsRow w.heap.size 2 1 v (rs.flatMap (domF id top)).length (valsZ (rs.flatMap (domF id top))) ∧ Below w.heap.size w w' := by
 obtain ⟨i0, hi0, hz0, hz1, hz2⟩ := info_parts info2'
 have HT := Lib.hid (TabAtD.new w sl rs.length cap sl2 ps.length cap2)
 have B0 := Lib.hid (bA0 w (.cells #[.slice sl rs.length cap, .slice sl2 ps.length cap2] 26))
 have HZ := Lib.hid hz
 have TR := Lib.hid TR0
 clear hz TR0
 generalize hA : rs.flatMap (domF id top) = ans
 have HA := Lib.hid hA
 clear hA
 generalize hN : rs.length = n at *
 have HN := Lib.hid hN
 clear hN
 generalize ps.length = m at *
 obtain ⟨t0, t1⟩ := HT.out.cells
 have tl := HT.out.lt
 go_enter Tryz.func181, Tryz.ntmps181
 have hn12 : n ≤ 12 := by have := TR.out.1.2.1; rw [HN.out] at this; exact this
 go_wp2
 obtain ⟨w1, ew1⟩ : ∃ w1, w1 = w.alloc (.cells #[.slice sl n cap, .slice sl2 m cap2] 26) := ⟨_, rfl⟩
 rw [← ew1] at HT B0 t0 t1 tl ⊢
 have D1 := B0
 clear ew1
 go_loopw [7, 15] (fun v i wr => ∃ (k : Nat) (cur : List Int), i = .int .i64 k ∧ k ≤ n ∧ cur.length ≤ 8 * k ∧ Hid (cur = (rs.take k).flatMap (domF id top)) ∧ Hid (wr.ownsRow w1.heap.size 2 1 v cur.length (valsZ cur)) ∧ Hid (Below w1.heap.size w1 wr)) (fun _ i _ => n - (intOf i).toNat)
 case atStart => exact ⟨0, [], rfl, Nat.zero_le _, Nat.zero_le _, rfl, ⟨rfl, .inl ⟨rfl, rfl⟩⟩, Below.refl _ _⟩
 case round =>
  obtain ⟨k, cur, rfl, hk, hcl, HC, H1, H2⟩ := hrel
  have hk0 : (0 : Int) ≤ (k : Int) := by omega
  have DW := Lib.hid (D1.out.trans (H2.out.mono D1.out.size))
  by_cases h1 : k < n
  ·have h1' : (k : Int) < (n : Int) := by omega
   have hlt : k < rs.length := by rw [HN.out]; exact h1
   obtain ⟨c, o, rfl, Z0⟩ : ∃ c o, sl = some ⟨c, o, none⟩ ∧ StAt w c o rs := by
    rcases HZ.out.row with e | h
    ·rw [e] at hlt; simp at hlt
    ·exact h
   have hc0 := (DW.out.cell Z0.lt).trans (Z0.cell k hlt).1
   have hc1 := (DW.out.cell Z0.lt).trans (Z0.cell k hlt).2.1
   have hc2 := (DW.out.cell Z0.lt).trans (Z0.cell k hlt).2.2
   obtain ⟨sld, capd, ed, hi, -⟩ := HZ.out.dom rs[k] (List.getElem_mem hlt)
   have hd8 := (TR.out.2.1 rs[k] (List.getElem_mem hlt)).2.1.2
   have FS := Lib.hid (flat_step (domF id top) rs k hlt)
   obtain ⟨x, y, dv, zs, hp⟩ : ∃ x y dv zs, rs[k] = (x, y, dv, zs) := ⟨_, _, _, _, rfl⟩
   rw [hp] at hc0 hc1 hc2 ed hi hd8 FS
   dsimp only at hc0 hc1 hc2 ed hi hd8
   subst ed
   have FS2 := Lib.hid (show (rs.take (k + 1)).flatMap (domF id top) = cur ++ FF x id top zs by rw [HC.out]; exact FS.out)
   have HI := Lib.hid hi
   generalize hQ : zs.length = q at *
   have HQ := Lib.hid hQ
   clear hi Z0 hlt hp FS hQ HC
   have S5 := Lib.hid (show SAt (wr.alloc (.cells #[.int .i64 x, .int .i64 y, .slice sld q capd] 92)) wr.heap.size x y (.slice sld q capd) from new_at _ _)
   have O5 := Lib.hid (H1.out.alloc (.cells #[.int .i64 x, .int .i64 y, .slice sld q capd] 92))
   have G5 := Lib.hid (bA H2.out (.cells #[.int .i64 x, .int .i64 y, .slice sld q capd] 92))
   have hsw := H2.out.size
   clear H1 H2
   go_wp2
   obtain ⟨w5, e5⟩ : ∃ w5, w5 = wr.alloc (.cells #[.int .i64 x, .int .i64 y, .slice sld q capd] 92) := ⟨_, rfl⟩
   rw [← e5] at S5 O5 G5 ⊢
   obtain ⟨bs, eb⟩ : ∃ bs, bs = wr.heap.size := ⟨_, rfl⟩
   rw [← eb] at S5 ⊢
   clear e5 eb hc0 hc1 hc2
   go_loopw [7, 22] (fun v i wr => ∃ (j : Nat) (cu : List Int), i = .int .i64 j ∧ j ≤ q ∧ cu.length ≤ 8 * k + j ∧ Hid (cu = cur ++ FF x id top (zs.take j)) ∧ Hid (wr.ownsRow w1.heap.size 2 1 v cu.length (valsZ cu)) ∧ Hid (SAt wr bs x y (.slice sld q capd)) ∧ Hid (Below w1.heap.size w1 wr)) (fun _ i _ => q - (intOf i).toNat)
   case atStart => exact ⟨0, cur, rfl, Nat.zero_le _, hcl, (by show cur = cur ++ FF x id top (zs.take 0); rw [List.take_zero, FF_nil, List.append_nil]), O5, S5, G5⟩
   case round =>
    obtain ⟨j, cu, rfl, hj, hcu, HC, H1, HS, H2⟩ := hrel
    have hj0 : (0 : Int) ≤ (j : Int) := by omega
    have DV := Lib.hid (D1.out.trans (H2.out.mono D1.out.size))
    have sl5 := HS.out.lt
    have hs5 := H2.out.size
    obtain ⟨s0, s2⟩ := HS.out.cells
    by_cases g1 : j < q
    ·have g1' : (j : Int) < (q : Int) := by omega
     have hlt : j < zs.length := by rw [HQ.out]; exact g1
     obtain ⟨cd, od, rfl, ZI⟩ : ∃ c o, sld = some ⟨c, o, none⟩ ∧ IntsAt w c o zs := by
      rcases HI.out with e | h
      ·rw [e] at hlt; simp at hlt
      ·exact h
     have hc := (DV.out.cell (p := ⟨cd, od + j, none⟩) ZI.1).trans (ZI.2 j hlt)
     by_cases a1 : x = id
     ·have a1' : (x == id) = true := by simp [a1]
      by_cases a2 : zs.getD j 0 ≤ top
      ·have HN2 := Lib.hid (show cu ++ [zs.getD j 0] = cur ++ FF x id top (zs.take (j + 1)) by rw [FF_yes x id top zs j hlt a1 a2, ← List.append_assoc, ← HC.out])
       have EV := Lib.hid (show valsZ cu ++ [.int .i64 (zs.getD j 0)] = valsZ (cu ++ [zs.getD j 0]) by simp [valsZ])
       have NE := Lib.hid (own_apart H1.out HS.out (by decide))
       generalize zs.getD j 0 = z at *
       clear hlt ZI HC a1
       go_wp2_with (first | (at_builtin; refine wpList_append_lies _ rfl (.tmp 35) (.tmp 37) 34 rfl w1.heap.size 2 i0 (.int .i64 0) 1 8 Tryz.underlying34 hi0 hz0 hz1 hz2 rfl (by decide) _ _ _ rfl (H1.out.alloc _) ⟨wr.heap.size, 0, none⟩ 1 1 [.int .i64 z] rfl rfl (cell_one_new _ _ _) (by intro u hu; simp at hu; subst hu; rfl) (by decide) (by unfold maxLen; omega) (by omega) (by simp; omega) (wr.heap.size + 1) (by simp) ?_))
       intro g9 cap9 w9 own9 grow9 hg9 hlt9
       have B9 := Lib.hid ((bA H2.out (.cells #[.int .i64 z] 2)).grown grow9 (by simp; omega) (fun j hj => (H1.out.lt j hj).1))
       have S9 := Lib.hid (HS.out.grow grow9 NE.out)
       rw [EV.out] at own9
       have N9 : Hid (w9.ownsRow w1.heap.size 2 1 (.slice (some ⟨g9, 0, none⟩) (cu.length + 1) cap9) (cu ++ [z]).length (valsZ (cu ++ [z]))) := by
        rw [List.length_append]; exact own9
       have LL := Lib.hid (show (cu ++ [z]).length ≤ 8 * k + (j + 1) by rw [List.length_append]; simp; omega)
       clear own9 grow9 hg9 hlt9 H1 HS H2 EV NE
       go_wp2
       go_roundw
       case rel => exact ⟨j + 1, cu ++ [z], by go_num, by omega, LL.out, HN2, N9, S9, B9⟩
       case measure => simp [intOf]; omega
      ·have HN2 := Lib.hid (show cu = cur ++ FF x id top (zs.take (j + 1)) by rw [FF_no x id top zs j hlt (fun g => a2 g.2)]; exact HC.out)
       generalize zs.getD j 0 = z at *
       clear hlt ZI HC a1
       go_wp2
       go_roundw
       case rel => exact ⟨j + 1, cu, by go_num, by omega, by omega, HN2, H1, HS, H2⟩
       case measure => simp [intOf]; omega
     ·have a1' : (x == id) = false := by simp [a1]
      have HN2 := Lib.hid (show cu = cur ++ FF x id top (zs.take (j + 1)) by rw [FF_no x id top zs j hlt (fun g => a1 g.1)]; exact HC.out)
      generalize zs.getD j 0 = z at *
      clear hlt ZI HC a1
      go_wp2
      go_roundw
      case rel => exact ⟨j + 1, cu, by go_num, by omega, by omega, HN2, H1, HS, H2⟩
      case measure => simp [intOf]; omega
    ·have g1' : ¬ (j : Int) < (q : Int) := by omega
     have HE := Lib.hid (show cu = (rs.take (k + 1)).flatMap (domF id top) by
      rw [FS2.out, HC.out, List.take_of_length_le (by rw [HQ.out]; omega)])
     clear HC
     go_wp2
     go_roundw
     case rel => exact ⟨k + 1, cu, by go_num, by omega, by omega, HE, H1, H2⟩
     case measure => simp [intOf]; omega
  ·have h1' : ¬ (k : Int) < (n : Int) := by omega
   have P := Lib.hid (show cur = ans by rw [HC.out, List.take_of_length_le (by rw [HN.out]; omega), HA.out])
   have OP := Lib.hid (own_mono H1.out D1.out.size)
   rw [P.out] at OP
   clear H1 HC P
   go_wp2
   go_ret
   exact ⟨_, rfl, OP.out, DW.out⟩
def pidsL (pl : List LPl) : List Int := pl.map fun p => p.1
theorem pidsL_len (pl : List LPl) : (pidsL pl).length = pl.length := by simp [pidsL]
theorem pidsL_step (pl : List LPl) (k : Nat) (h : k < pl.length) : valsZ ((pidsL pl).take k) ++ [.int .i64 pl[k].1] = valsZ ((pidsL pl).take (k + 1)) := by
 rw [List.take_add_one, show (pidsL pl)[k]? = some pl[k].1 by simp [pidsL, h]]
 simp [valsZ]
def pidsA (pl : List LPl) : List Int := if pl.length ≤ 400 then pidsL pl else []
set_option maxHeartbeats 1000000 in
theorem ipi_any (sl : Option Addr) (cap : Nat) (pl : List LPl) (w : World) (hn : pl.length ≤ maxLen) (hz : Pls w sl pl) :
  Calls Tryz.prog 117 #[.slice sl pl.length cap] w fun e w' => ∃ v, e = .returned v ∧ w'.ownsRow w.heap.size 2 1 v (pidsA pl).length (valsZ (pidsA pl)) ∧ Below w.heap.size w w' := by
 unfold maxLen at hn
 by_cases h4 : pl.length ≤ 400
 ·rw [show pidsA pl = pidsL pl from if_pos h4]
  obtain ⟨i0, hi0, hz0, hz1, hz2⟩ := info_parts info2'
  have h4' : ¬ (400 : Int) < (pl.length : Int) := by omega
  have HZ := Lib.hid hz
  clear hz
  rw [pidsL_len]
  generalize hN : pl.length = n at *
  have HN := Lib.hid hN
  clear hN
  go_enter Tryz.func117, Tryz.ntmps117
  go_wp2
  go_loopw [3, 11] (fun v i wr => ∃ k : Nat, i = .int .i64 k ∧ k ≤ n ∧ Hid (wr.ownsRow w.heap.size 2 1 v k (valsZ ((pidsL pl).take k))) ∧ Hid (Below w.heap.size w wr)) (fun _ i _ => n - (intOf i).toNat)
  case atStart => exact ⟨0, rfl, Nat.zero_le _, ⟨rfl, .inl ⟨rfl, rfl⟩⟩, Below.refl _ _⟩
  case round =>
   obtain ⟨k, rfl, hk, H1, H2⟩ := hrel
   have hk0 : (0 : Int) ≤ (k : Int) := by omega
   by_cases h1 : k < n
   ·have h1' : (k : Int) < (n : Int) := by omega
    have hlt : k < pl.length := by rw [HN.out]; exact h1
    obtain ⟨c, o, rfl, Z0⟩ : ∃ c o, sl = some ⟨c, o, none⟩ ∧ PlAt w c o pl := by
     rcases HZ.out with e | h
     ·rw [e] at hlt; simp at hlt
     ·exact h
    obtain ⟨hc, hc1⟩ := (Z0.below H2.out).cell k hlt
    have EV := Lib.hid (pidsL_step pl k hlt)
    generalize pl[k].1 = z at *
    generalize pl[k].2 = y at *
    clear hlt Z0
    have hown := Lib.hid (H1.out.alloc (.cells #[.int .i64 z, .int .i64 y] 131))
    have hs := H2.out.size
    go_wp2_with (first | (at_builtin; refine wpList_append_lies _ rfl (.tmp 15) (.tmp 18) 34 rfl w.heap.size 2 i0 (.int .i64 0) 1 8 Tryz.underlying34 hi0 hz0 hz1 hz2 rfl (by decide) _ _ _ rfl (hown.out.alloc _) ⟨wr.heap.size + 1, 0, none⟩ 1 1 [.int .i64 z] (by simp [Act.eval]) rfl (cell_one_new' _ _ _ _) (by intro u hu; simp at hu; subst hu; rfl) (by decide) (by unfold maxLen; omega) (by omega) (by simp; omega) (wr.heap.size + 2) (by simp) ?_))
    intro g9 cap9 w9 own9 grow9 hg9 hlt9
    have B9 := Lib.hid ((bA (bA H2.out (.cells #[.int .i64 z, .int .i64 y] 131)) (.cells #[.int .i64 z] 2)).grown grow9 (by simp; omega) (fun j hj => (hown.out.lt j hj).1))
    rw [EV.out] at own9
    have N9 := Lib.hid own9
    clear own9 grow9 hg9 hlt9 hown
    go_wp2
    go_roundw
    case rel => exact ⟨k + 1, by go_num, by omega, N9, B9⟩
    case measure => simp [intOf]; omega
   ·have h1' : ¬ (k : Int) < (n : Int) := by omega
    have e : k = n := by omega
    have F := Lib.hid (show (pidsL pl).take k = pidsL pl from List.take_of_length_le (by rw [pidsL_len, HN.out]; omega))
    have H9 := H1.out
    rw [F.out, e] at H9
    have P := Lib.hid (And.intro H9 H2.out)
    clear H9 H1
    go_wp2
    go_ret
    exact ⟨_, rfl, P.out.1, P.out.2⟩
 ·rw [show pidsA pl = [] from if_neg h4]
  have h4' : (400 : Int) < (pl.length : Int) := by omega
  clear hz
  generalize pl.length = n at *
  go_enter Tryz.func117, Tryz.ntmps117
  go_wp2
  go_ret
  exact ⟨_, rfl, ⟨rfl, .inl ⟨rfl, rfl⟩⟩, Below.refl _ _⟩
def rowsA (rows : List LRow) (n : Nat) : Array Value := (rows.map (fun r => r.1) ++ List.replicate (n - rows.length) (Value.slice none 0 0)).toArray
def ChBD (w : World) (b : Nat) (vs : Array Value) : Prop := w.heap[b]? = some (.cells vs 28)
theorem ChBD.lt {w : World} {b : Nat} {vs : Array Value} (h : ChBD w b vs) : b < w.heap.size := (Array.getElem?_eq_some_iff.1 h).1
theorem ChBD.below {w w' : World} {b : Nat} {vs : Array Value} (h : ChBD w b vs) (hb : Below w.heap.size w w') : ChBD w' b vs := (hb.block b h.lt).trans h
theorem ChBD.cell {w : World} {b : Nat} {vs : Array Value} (h : ChBD w b vs) (i : Nat) : w.cell? ⟨b, i, none⟩ = vs[i]? := by
 unfold ChBD at h; simp [World.cell?, h]
theorem ChBD.frozen {w : World} {b : Nat} {vs : Array Value} (h : ChBD w b vs) (i : Nat) : w.frozen? ⟨b, i, none⟩ = false := by
 unfold ChBD at h; simp [World.frozen?, h]
theorem ChBD.set {w : World} {b : Nat} {vs : Array Value} (h : ChBD w b vs) (i : Nat) (v : Value) : ChBD (w.setCell ⟨b, i, none⟩ v) b (vs.setIfInBounds i v) := heap_setCell_same w b i vs 28 v h
theorem rowsA_size (rows : List LRow) (n : Nat) (h : rows.length ≤ n) : (rowsA rows n).size = n := by simp [rowsA]; omega
theorem rowsA_nil (n : Nat) : rowsA [] n = (List.replicate n (Value.slice none 0 0)).toArray := by simp [rowsA]
theorem rowsA_at (rows : List LRow) (n : Nat) (h : rows.length < n) : (rowsA rows n)[rows.length]? = some (.slice none 0 0) := by
 simp only [rowsA, List.getElem?_toArray]
 rw [List.getElem?_append_right (by simp)]
 simp [show 0 < n - rows.length by omega]
theorem rowsA_get (rows : List LRow) (n i : Nat) (h : i < rows.length) : (rowsA rows n)[i]? = some rows[i].1 := by
 simp only [rowsA, List.getElem?_toArray]
 rw [List.getElem?_append_left (by simpa using h)]
 simp [h]
theorem rowsA_step (rows : List LRow) (n : Nat) (h : rows.length < n) (r : LRow) : (rowsA rows n).setIfInBounds rows.length r.1 = rowsA (rows ++ [r]) n := by
 obtain ⟨k, hk⟩ : ∃ k, n - rows.length = k + 1 := ⟨n - rows.length - 1, by omega⟩
 have hk' : n - (rows ++ [r]).length = k := by simp; omega
 unfold rowsA
 rw [hk, hk', List.replicate_succ, List.setIfInBounds_toArray]
 congr 1
 rw [List.set_append_right _ _ (by simp)]
 simp
theorem set_set (vs : Array Value) (i : Nat) (u v : Value) : (vs.setIfInBounds i u).setIfInBounds i v = vs.setIfInBounds i v := by simp
theorem set_self (vs : Array Value) (i : Nat) (v : Value) (h : vs[i]? = some v) : vs.setIfInBounds i v = vs := by
 apply Array.ext
 ·simp
 ·intro j h1 h2
  rw [Array.getElem_setIfInBounds (by simpa using h1)]
  split
  ·rename_i e
   subst e
   rw [Array.getElem?_eq_getElem h2] at h
   exact (Option.some.inj h).symm
  ·rfl
theorem set_at (vs : Array Value) (i : Nat) (v : Value) (h : i < vs.size) : (vs.setIfInBounds i v)[i]? = some v := by
 rw [Array.getElem?_setIfInBounds_self_of_lt h]
theorem info27 : (Tryz.prog.info? 28).map (fun i => (i.zero, i.size, i.bytes)) = some (some (.slice none 0 0), 1, 24) := by kernel_rfl
theorem made27 (n : Nat) : madeCells #[Value.slice none 0 0] n = rowsA [] n := by
 apply Array.toList_inj.1
 rw [toList_madeCells_one, rowsA_nil]
theorem make27 (n : Nat) (h : n ≤ 1048576) (w : World) :
  Sem.run Tryz.prog (Instr.makeSlice 215 (.int .i64 (n : Int)) (.int .i64 (n : Int))) w = .ok (.slice (some ⟨w.heap.size, 0, none⟩) n n) (w.alloc (.cells (rowsA [] n) 28)) := by
 obtain ⟨i, h1, h2, h3, h4⟩ := info_parts info27
 have := run_make (P := Tryz.prog) w 215 28 i _ Tryz.underlying215 h1 h2 .i64 .i64 (n : Int) (n : Int) (by omega) (Int.le_refl _) (by rw [h4]; omega) (by omega)
 rw [this, h3, ← made27]
 simp [Value.cells]
theorem ChBD.grow {w : World} {b : Nat} {vs : Array Value} (h : ChBD w b vs) {o : Obj} {w' : World} {v : Value} (hg : (w.alloc o).grownBy w' v.ownBlock) (hv : v.ownBlock ≠ some b) : ChBD w' b vs :=
 (hg.block b (by simp; exact Nat.lt_succ_of_lt h.lt) (fun e => hv e.symm)).trans ((Below.heap_alloc _ _ _ h.lt).trans h)
theorem Kp1.grow {b C : Nat} {w w' : World} {o : Obj} {v : Value} (hg : (w.alloc o).grownBy w' v.ownBlock) (hC : C ≤ w.heap.size) (hv : ∀ j, v.ownBlock = some j → C ≤ j) : Kp1 b C w w' :=
 ⟨by have := hg.size; simp at this; omega, fun c hc _ => (hg.block c (by simp; omega) (fun e => by have := hv c e.symm; omega)).trans (Below.heap_alloc _ _ _ (by omega))⟩
set_option maxRecDepth 100000 in
set_option maxHeartbeats 4000000 in
theorem ch_any (sl : Option Addr) (cap : Nat) (sl2 : Option Addr) (cap2 : Nat) (sl3 : Option Addr) (cap3 : Nat) (rs : List LSt) (ps : List LPr) (top : Int) (ids : List Int) (w : World) (hl : ids.length ≤ 400) (hz : Sts w sl rs) (TR0 : TabR rs ps) (hi : Ints w sl3 ids) :
  Calls Tryz.prog 172 #[TV sl rs.length cap sl2 ps.length cap2, .int .i64 top, .slice sl3 ids.length cap3] w fun e w' => ∃ b rows, e = .returned (.slice (some ⟨b, 0, none⟩) ids.length ids.length) ∧ rows.map (fun r => r.2) = ids.map (chF rs top) ∧ Rws w' (some ⟨b, 0, none⟩) rows ∧ Below w.heap.size w w' := by
 obtain ⟨i3, hi3, hd0, hd1, hd2⟩ := info_parts info34
 have HT := Lib.hid (TabAtD.new w sl rs.length cap sl2 ps.length cap2)
 have E1 : Hid (∀ id W, Below w.heap.size w W → Calls Tryz.prog 181 #[TV sl rs.length cap sl2 ps.length cap2, .int .i64 id, .int .i64 top] W fun e w' => ∃ v, e = .returned v ∧ w'.ownsRow W.heap.size 2 1 v (rs.flatMap (domF id top)).length (valsZ (rs.flatMap (domF id top))) ∧ Below W.heap.size W w') := fun id W hW => din_any sl cap sl2 cap2 rs ps id top W (hz.below hW) TR0
 have DL := Lib.hid (fun id => dom_le rs ps id top TR0)
 have HI := Lib.hid hi
 have hmk := make27 ids.length (by omega)
 clear hz hi TR0
 generalize hN : ids.length = n at *
 have HN := Lib.hid hN
 clear hN
 generalize rs.length = rn at *
 generalize ps.length = pn at *
 have B0 := Lib.hid (bA (bA0 w (.cells #[.slice sl rn cap, .slice sl2 pn cap2] 26)) (.cells (rowsA [] n) 28))
 have X0 := Lib.hid (HT.out.below (bA0 (w.alloc (.cells #[.slice sl rn cap, .slice sl2 pn cap2] 26)) (.cells (rowsA [] n) 28)))
 have C0 := Lib.hid (show ChBD ((w.alloc (.cells #[.slice sl rn cap, .slice sl2 pn cap2] 26)).alloc (.cells (rowsA [] n) 28)) (w.heap.size + 1) (rowsA [] n) by
  have := new_at (w.alloc (.cells #[.slice sl rn cap, .slice sl2 pn cap2] 26)) (.cells (rowsA [] n) 28)
  rwa [show (w.alloc (.cells #[.slice sl rn cap, .slice sl2 pn cap2] 26)).heap.size = w.heap.size + 1 by simp] at this)
 go_enter Tryz.func172, Tryz.ntmps172
 go_wp2
 generalize (w.alloc (.cells #[.slice sl rn cap, .slice sl2 pn cap2] 26)).alloc (.cells (rowsA [] n) 28) = wA at *
 clear HT
 go_loopw [17] (fun i wr => ∃ (k : Nat) (rows : List LRow), i = .int .i64 k ∧ k ≤ n ∧ Hid (rows.length = k ∧ rows.map (fun r => r.2) = (ids.take k).map (chF rs top)) ∧ Hid (ChBD wr (w.heap.size + 1) (rowsA rows n)) ∧ Hid (∀ r ∈ rows, RowN (w.heap.size + 1) wr r) ∧ Hid (Below w.heap.size w wr) ∧ Hid (TabAtD wr w.heap.size sl rn cap sl2 pn cap2)) (fun i _ => n - (intOf i).toNat)
 case atStart => exact ⟨0, [], rfl, Nat.zero_le _, ⟨rfl, rfl⟩, C0, (fun r hr => by cases hr), B0, X0⟩
 case round =>
  obtain ⟨k, rows, rfl, hk, RL, CB, RN, H2, XT⟩ := hrel
  have hk0 : (0 : Int) ≤ (k : Int) := by omega
  by_cases g1 : k < n
  ·have g1' : (k : Int) < (n : Int) := by omega
   have hlt : k < ids.length := by rw [HN.out]; exact g1
   obtain ⟨c, o, rfl, ZI⟩ : ∃ c o, sl3 = some ⟨c, o, none⟩ ∧ IntsAt w c o ids := by
    rcases HI.out with e | h
    ·rw [e] at hlt; simp at hlt
    ·exact h
   have hc := (H2.out.cell (p := ⟨c, o + k, none⟩) ZI.1).trans (ZI.2 k hlt)
   have IS := Lib.hid (show (ids.take (k + 1)).map (chF rs top) = (ids.take k).map (chF rs top) ++ [chF rs top (ids.getD k 0)] by
    rw [List.take_succ_eq_append_getElem hlt, List.map_append]; simp [hlt])
   have E := Lib.hid (E1.out (ids.getD k 0) wr H2.out)
   have D8 := DL.out (ids.getD k 0)
   have CF := Lib.hid (show chF rs top (ids.getD k 0) = (rs.flatMap (domF (ids.getD k 0) top)).map fun c => (ids.getD k 0, c) from rfl)
   clear hlt ZI
   generalize ids.getD k 0 = x at *
   obtain ⟨t0, t1⟩ := XT.out.cells
   have tl := XT.out.lt
   generalize hzz : rs.flatMap (domF x top) = zs at *
   clear hzz
   have CT := CB.out.lt
   go_wp2_with fail
   refine E.out.mono ?_
   rintro e w3 ⟨v3, rfl, o3, b3⟩
   obtain ⟨s3, c3, rfl, z3⟩ := own_ints o3
   have Z3 := Lib.hid z3
   have ZB := Lib.hid (show ∀ c o, s3 = some ⟨c, o, none⟩ → c ≠ w.heap.size + 1 from fun c o e => by
    subst e
    rcases o3.2 with ⟨hv, _⟩ | ⟨g, cp, cur, hv, hb, _⟩
    ·cases hv
    ·cases hv; omega)
   have H3 := Lib.hid (bT H2.out b3)
   have CB3 := Lib.hid (CB.out.below b3)
   have X3 := Lib.hid (XT.out.below b3)
   have RN3 := Lib.hid (fun r hr => (RN.out r hr).kp (Kp1.of b3) (Nat.le_refl _))
   have RA := Lib.hid (rowsA_at rows n (by rw [RL.out.1]; exact g1))
   have RZ := Lib.hid (rowsA_size rows n (by rw [RL.out.1]; exact hk))
   have RS := Lib.hid (rowsA_step rows n (by rw [RL.out.1]; exact g1))
   rw [RL.out.1] at RA RS
   clear o3 z3 b3 E CB XT RN t0 t1 tl CT
   generalize rowsA rows n = vs0 at *
   generalize hq : zs.length = q at *
   have HQ := Lib.hid hq
   clear hq
   have C3 := Lib.hid (show ChBD w3 (w.heap.size + 1) (vs0.setIfInBounds k (.slice none 0 0)) by rw [set_self _ _ _ RA.out]; exact CB3.out)
   have hw3 := CB3.out.lt
   go_wp2
   go_loopw [27] (fun j wq => ∃ (m : Nat) (v : Value), j = .int .i64 m ∧ m ≤ q ∧ Hid (ChBD wq (w.heap.size + 1) (vs0.setIfInBounds k v)) ∧ Hid (wq.ownsRow w3.heap.size 131 2 v m (enCells ((zs.take m).map fun c => (x, c)))) ∧ Hid (Kp1 (w.heap.size + 1) w3.heap.size w3 wq) ∧ Hid (Below w.heap.size w wq)) (fun j _ => q - (intOf j).toNat)
   case atStart => exact ⟨0, _, rfl, Nat.zero_le _, C3, ⟨rfl, .inl ⟨rfl, rfl⟩⟩, Kp1.refl _ _ _, H3⟩
   case round =>
    obtain ⟨m, v, rfl, hm, CB, OR, KP, HB⟩ := hrel
    have hm0 : (0 : Int) ≤ (m : Int) := by omega
    by_cases g2 : m < q
    ·have g2' : (m : Int) < (q : Int) := by omega
     have hlt : m < zs.length := by rw [HQ.out]; exact g2
     obtain ⟨e, p, rfl, ZI⟩ : ∃ e p, s3 = some ⟨e, p, none⟩ ∧ IntsAt w3 e p zs := by
      rcases Z3.out with e | h
      ·rw [e] at hlt; simp at hlt
      ·exact h
     have hzc := (KP.out.cell (o := p + m) ZI.1 (ZB.out _ _ rfl)).trans (ZI.2 m hlt)
     have FS := Lib.hid (show enCells ((zs.take m).map fun c => ((x, c) : LPl)) ++ [.int .i64 x, .int .i64 (zs.getD m 0)] = enCells ((zs.take (m + 1)).map fun c => ((x, c) : LPl)) by rw [chF_step rs top x zs m hlt, enCells_add])
     clear hlt ZI
     generalize zs.getD m 0 = z at *
     have hbc : wr.cell? ⟨w.heap.size + 1, k, none⟩ = some v := (CB.out.cell k).trans (set_at _ _ _ (by rw [RZ.out]; exact g1))
     have hbl := CB.out.lt
     have NE := Lib.hid (show v.ownBlock ≠ some (w.heap.size + 1) from fun e => by have := (OR.out.lt _ e).1; omega)
     obtain ⟨vsl, vcap, rfl⟩ := own_v OR.out
     generalize enCells ((zs.take m).map fun c => ((x, c) : LPl)) = xs at *
     have hks := KP.out.1
     go_wp2_with (first | (at_builtin; refine wpList_append_lies _ rfl (.tmp 36) (.tmp 40) 28 rfl w3.heap.size 131 i3 (.agg #[.int .i64 0, .int .i64 0]) 2 16 Tryz.underlying28 hi3 hd0 hd1 hd2 rfl (by decide) _ _ _ rfl (OR.out.alloc _) ⟨wr.heap.size, 0, none⟩ 1 1 [.int .i64 x, .int .i64 z] rfl rfl (cell_two_new _ _ _ _) (by intro u hu; simp at hu; rcases hu with rfl | rfl <;> rfl) (by decide) (by unfold maxLen; omega) (by omega) (by simp; omega) (wr.heap.size + 1) (by simp) ?_))
     intro g9 cap9 w9 own9 grow9 hg9 hlt9
     have OL := Lib.hid (show ∀ j, (Value.slice vsl m vcap).ownBlock = some j → w3.heap.size ≤ j from fun j hj => (OR.out.lt j hj).1)
     have NE9 := Lib.hid (show (Value.slice (some ⟨g9, 0, none⟩) (m + 1) cap9).ownBlock ≠ some (w.heap.size + 1) from fun e => by have := (own9.lt _ e).1; omega)
     have C9 := Lib.hid (show ChBD (w9.setCell ⟨w.heap.size + 1, k, none⟩ (.slice (some ⟨g9, 0, none⟩) (m + 1) cap9)) (w.heap.size + 1) (vs0.setIfInBounds k (.slice (some ⟨g9, 0, none⟩) (m + 1) cap9)) by
      have := (CB.out.grow grow9 NE.out).set k (.slice (some ⟨g9, 0, none⟩) (m + 1) cap9)
      rwa [set_set] at this)
     have K9 := Lib.hid ((KP.out.trans (Kp1.grow grow9 hks OL.out)).set k (.slice (some ⟨g9, 0, none⟩) (m + 1) cap9))
     have B9 := Lib.hid (((bA HB.out (.cells #[.int .i64 x, .int .i64 z] 131)).grown grow9 (by have := HB.out.size; simp; omega) (fun j hj => by have := OL.out j hj; omega)).setCell (p := ⟨w.heap.size + 1, k, none⟩) (Nat.le_add_right _ _) (.slice (some ⟨g9, 0, none⟩) (m + 1) cap9))
     rw [FS.out] at own9
     have O9 := Lib.hid (own_set own9 NE9.out k (.slice (some ⟨g9, 0, none⟩) (m + 1) cap9))
     have CW := CB.out.grow grow9 NE.out
     have wc : w9.cell? ⟨w.heap.size + 1, k, none⟩ = some (.slice vsl m vcap) := (CW.cell k).trans (set_at _ _ _ (by rw [RZ.out]; exact g1))
     have wf := CW.frozen k
     have wl := CW.lt
     clear own9 grow9 hg9 hlt9 CB OR KP HB OL NE NE9 CW hbc FS
     go_wp2
     go_roundw
     case rel => exact ⟨m + 1, _, by go_num, by omega, C9, O9, K9, B9⟩
     case measure => simp [intOf]; omega
    ·have g2' : ¬ (m : Int) < (q : Int) := by omega
     have em : zs.take m = zs := List.take_of_length_le (by rw [HQ.out]; omega)
     have emq : m = (zs.map fun c => ((x, c) : LPl)).length := by simp; rw [HQ.out]; omega
     have O9 : Hid (wr.ownsRow w3.heap.size 131 2 v (zs.map fun c => ((x, c) : LPl)).length (enCells (zs.map fun c => ((x, c) : LPl)))) := by
      have := OR.out
      rw [em, emq] at this
      exact this
     have RNN : Hid (∀ r ∈ rows ++ [(v, zs.map fun c => ((x, c) : LPl))], RowN (w.heap.size + 1) wr r) := fun r hr => by
      rcases List.mem_append.1 hr with hr | hr
      ·exact (RN3.out r hr).kp KP.out (Nat.le_refl _)
      ·rw [List.mem_singleton.1 hr]
       obtain ⟨sl9, cap9, e9, h9⟩ := own_pls O9.out
       refine ⟨sl9, cap9, e9, ?_⟩
       rcases h9 with h9 | ⟨c9, es, p9, hb9⟩
       ·exact .inl h9
       ·exact .inr ⟨c9, es, p9, by omega⟩
     have CBN : Hid (ChBD wr (w.heap.size + 1) (rowsA (rows ++ [(v, zs.map fun c => ((x, c) : LPl))]) n)) := by
      have := CB.out
      rw [RS.out (v, zs.map fun c => ((x, c) : LPl))] at this
      exact this
     have RLN : Hid ((rows ++ [(v, zs.map fun c => ((x, c) : LPl))]).length = k + 1 ∧ (rows ++ [(v, zs.map fun c => ((x, c) : LPl))]).map (fun r => r.2) = (ids.take (k + 1)).map (chF rs top)) := ⟨by simp [RL.out.1], by rw [List.map_append, RL.out.2, IS.out, CF.out]; rfl⟩
     have XN : Hid (TabAtD wr w.heap.size sl rn cap sl2 pn cap2) := (KP.out.2 w.heap.size (by omega) (by omega)).trans X3.out
     clear em emq O9 CB OR KP RS RA RZ
     go_wp2
     go_roundw
     case rel => exact ⟨k + 1, _, by go_num, by omega, RLN, CBN, RNN, HB, XN⟩
     case measure => simp [intOf]; omega
  ·have g1' : ¬ (k : Int) < (n : Int) := by omega
   have P : Hid (rows.map (fun r => r.2) = ids.map (chF rs top) ∧ Rws wr (some ⟨w.heap.size + 1, 0, none⟩) rows ∧ Below w.heap.size w wr) := by
    refine ⟨?_, ⟨.inr ⟨_, rfl, CB.out.lt, fun i hi => ?_⟩, fun r hr => ?_⟩, H2.out⟩
    ·have := RL.out.2
     rwa [List.take_of_length_le (by rw [HN.out]; omega)] at this
    ·rw [CB.out.cell i, rowsA_get rows n i hi]
    ·obtain ⟨sl9, cap9, e9, h9⟩ := RN.out r hr
     refine ⟨sl9, cap9, e9, ?_⟩
     rcases h9 with h9 | ⟨c9, es, p9, hb9⟩
     ·exact .inl h9
     ·exact .inr ⟨c9, 0, es, p9⟩
   clear RL CB RN
   go_wp2
   go_ret
   exact ⟨_, rfl, rows, P.out⟩
end Go.Proofs.YtnihhbfgbilimaaGreatDoor
