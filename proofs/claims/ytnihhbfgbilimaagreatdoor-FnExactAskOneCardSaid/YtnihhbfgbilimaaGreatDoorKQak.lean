import Derived.Test.YtnihhbfgbilimaaGreatDoorKQaj
namespace Go.Proofs.YtnihhbfgbilimaaGreatDoor
open Go.RowKit
set_option linter.unusedVariables false
open List (setIfInBounds_toArray set_cons_zero set_cons_succ getElem_toArray getElem_cons_succ getElem_cons_zero)
def restL (pl : List LPl) (x : LPl) (d : Bool) (k : Nat) : List LPl := if d = true then pl.drop k else withL (pl.drop k) x
theorem rest_done (pl : List LPl) (x p : LPl) (k : Nat) (h : k < pl.length) (hp : pl[k] = p) : restL pl x true k = p :: restL pl x true (k + 1) := by
 subst hp
 simp only [restL, if_true]
 exact List.drop_eq_getElem_cons h
theorem rest_now (pl : List LPl) (x p : LPl) (k : Nat) (h : k < pl.length) (hp : pl[k] = p) (hg : x.1 < p.1) : restL pl x false k = x :: p :: restL pl x true (k + 1) := by
 subst hp
 simp only [restL, if_true, Bool.false_eq_true, if_false]
 rw [List.drop_eq_getElem_cons h, withL, if_pos hg]
theorem rest_not (pl : List LPl) (x p : LPl) (k : Nat) (h : k < pl.length) (hp : pl[k] = p) (hg : ¬ x.1 < p.1) : restL pl x false k = p :: restL pl x false (k + 1) := by
 subst hp
 simp only [restL, Bool.false_eq_true, if_false]
 rw [List.drop_eq_getElem_cons h, withL, if_neg hg]
theorem rest_end (pl : List LPl) (x : LPl) (d : Bool) (k : Nat) (h : pl.length ≤ k) : restL pl x d k = if d = true then [] else [x] := by
 unfold restL
 rw [List.drop_of_length_le h]
 rfl
theorem bAM {M : Nat} {W w : World} (h : Below M W w) (hs : M ≤ w.heap.size) (o : Obj) : Below M W (w.alloc o) := h.alloc hs o
set_option maxRecDepth 100000 in
set_option maxHeartbeats 4000000 in
theorem wi_any (sl : Option Addr) (cap : Nat) (pl : List LPl) (id c : Int) (w : World) (hn : pl.length ≤ 1000) (hz : Pls w sl pl) :
  Calls Tryz.prog 90 #[.slice sl pl.length cap, .agg #[.int .i64 id, .int .i64 c]] w fun e w' => ∃ v, e = .returned v ∧ w'.ownsRow w.heap.size 131 2 v (withL pl (id, c)).length (enCells (withL pl (id, c))) ∧ Below w.heap.size w w' := by
 have B0 := Lib.hid (bA0 w (.cells #[.int .i64 id, .int .i64 c] 131))
 have N0 := Lib.hid (new_at w (.cells #[.int .i64 id, .int .i64 c] 131))
 have HZ := Lib.hid (hz.below B0.out)
 have hM : (w.alloc (.cells #[.int .i64 id, .int .i64 c] 131)).heap.size = w.heap.size + 1 := by simp
 have O0 := Lib.hid (own_none2 (w.alloc (.cells #[.int .i64 id, .int .i64 c] 131)))
 have B1 := Lib.hid (bA0 (w.alloc (.cells #[.int .i64 id, .int .i64 c] 131)) (.cells #[] 131))
 rw [hM] at O0 B1
 have HL := Lib.hid (withL_len pl (id, c))
 have KX : Hid (∀ W, Below (w.heap.size + 1) (w.alloc (.cells #[.int .i64 id, .int .i64 c] 131)) W → w.heap.size < W.heap.size ∧ W.cell? ⟨w.heap.size, 0, none⟩ = some (.int .i64 id) ∧ W.cell? ⟨w.heap.size, 1, none⟩ = some (.int .i64 c)) := fun W hW => by
  have hb : W.heap[w.heap.size]? = some (.cells #[.int .i64 id, .int .i64 c] 131) := (hW.block _ (Nat.lt_succ_self _)).trans N0.out
  exact ⟨(Array.getElem?_eq_some_iff.1 hb).1, by simp [World.cell?, hb], by simp [World.cell?, hb]⟩
 have PX : Hid (∀ W, Below (w.heap.size + 1) (w.alloc (.cells #[.int .i64 id, .int .i64 c] 131)) W → Pls W sl pl) := fun W hW => HZ.out.below (by rw [hM]; exact hW)
 have BX : Hid (∀ W, Below (w.heap.size + 1) (w.alloc (.cells #[.int .i64 id, .int .i64 c] 131)) W → Below w.heap.size w W) := fun W hW => B0.out.trans (hW.mono (by omega))
 have SX : Hid (∀ W, Below (w.heap.size + 1) (w.alloc (.cells #[.int .i64 id, .int .i64 c] 131)) W → w.heap.size + 1 ≤ W.heap.size) := fun W hW => by have := hW.size; rw [hM] at this; exact this
 have RE : Hid (∀ d k, pl.length ≤ k → restL pl (id, c) d k = if d = true then [] else [(id, c)]) := fun d k h => rest_end pl (id, c) d k h
 have R0 : Hid (withL pl (id, c) = [] ++ restL pl (id, c) false 0) := rfl
 clear hz N0 HZ B0 hM
 generalize hW : withL pl (id, c) = ws at *
 clear hW
 generalize hN : pl.length = n at *
 have HN := Lib.hid hN
 clear hN
 go_enter Tryz.func90, Tryz.ntmps90
 go_wp2
 generalize (w.alloc (.cells #[.int .i64 id, .int .i64 c] 131)).alloc (.cells #[] 131) = w2 at *
 generalize w.alloc (.cells #[.int .i64 id, .int .i64 c] 131) = w1 at *
 go_loopw [5, 6, 7] (fun v d i wr => ∃ (k : Nat) (b : Bool) (ks : List LPl), i = .int .i64 k ∧ d = .bool b ∧ k ≤ n ∧ Hid (wr.ownsRow (w.heap.size + 1) 131 2 v ks.length (enCells ks)) ∧ Hid (ws = ks ++ restL pl (id, c) b k) ∧ Hid (Below (w.heap.size + 1) w1 wr)) (fun _ _ i _ => n - (intOf i).toNat)
 case atStart => exact ⟨0, false, [], rfl, rfl, Nat.zero_le _, O0, R0, B1⟩
 case round =>
  obtain ⟨k, b, ks, rfl, rfl, hk, OW, RW, BW⟩ := hrel
  clear O0 R0 B1
  have hk0 : (0 : Int) ≤ (k : Int) := by omega
  have hkl : ks.length ≤ n + 1 := by have := congrArg List.length RW.out; rw [HL.out, List.length_append] at this; omega
  by_cases h1 : k < n
  ·have h1' : (k : Int) < (n : Int) := by omega
   have hlt : k < pl.length := by rw [HN.out]; exact h1
   obtain ⟨cb, co, rfl⟩ : ∃ cb co, sl = some ⟨cb, co, none⟩ := by
    rcases PX.out _ BW.out with e | ⟨cb, co, e, _⟩
    ·rw [e] at hlt; simp at hlt
    ·exact ⟨cb, co, e⟩
   obtain ⟨⟨y0, y1⟩, hp⟩ : ∃ p, pl[k]'hlt = p := ⟨_, rfl⟩
   have CX : Hid (∀ W, Below (w.heap.size + 1) w1 W → cb < W.heap.size ∧ W.cell? ⟨cb, co + k * 2, none⟩ = some (.int .i64 y0) ∧ W.cell? ⟨cb, co + k * 2 + 1, none⟩ = some (.int .i64 y1)) := fun W hW => by
    rcases PX.out W hW with e | ⟨c', o', e, h⟩
    ·rw [e] at hlt; simp at hlt
    ·cases e; have := h.cell k hlt; rw [hp] at this; exact ⟨h.lt, this⟩
   have OD : Hid (wr.drew.ownsRow (w.heap.size + 1) 131 2 _ ks.length (enCells ks)) := OW.out
   have BD := Lib.hid BW.out.drew
   cases b with
   | true =>
    have RK := Lib.hid (rest_done pl (id, c) _ k hlt hp)
    clear hlt hp
    have RQ := Lib.hid (show ws = (ks ++ [(y0, y1)]) ++ restL pl (id, c) true (k + 1) by rw [RW.out, RK.out]; simp)
    clear RK RW OW
    go_wp2_with fail
    refine wp_region_held_drew (S := fun W => True) (by kernel_rfl) ?_ (fun hHeld => ?_)
    ·exact trivial
    refine tw (i := 0) rfl ?_
    refine tw (i := 1) rfl ?_
    refine tw (i := 2) rfl ?_
    refine ts (i := 3) rfl ?_
    try simp only [Act.put, setIfInBounds_toArray, set_cons_zero, set_cons_succ, getElem_toArray, getElem_cons_succ, getElem_cons_zero]
    refine ts (i := 4) rfl ?_
    refine ts (i := 5) rfl ?_
    refine ts (i := 6) rfl ?_
    refine ts (i := 7) rfl ?_
    try simp only [Act.put, setIfInBounds_toArray, set_cons_zero, set_cons_succ, getElem_toArray, getElem_cons_succ, getElem_cons_zero]
    refine ts (i := 8) rfl ?_
    refine ts (i := 9) rfl ?_
    refine ts (i := 10) rfl ?_
    refine tw (i := 11) rfl ?_
    try simp only [Act.put, setIfInBounds_toArray, set_cons_zero, set_cons_succ, getElem_toArray, getElem_cons_succ, getElem_cons_zero]
    refine wpAnyH_done (by kernel_rfl) ?_ _
    generalize wr.drew = wd at *
    obtain ⟨e0, e1, e2⟩ := CX.out _ BD.out
    have s9 := SX.out _ BD.out
    obtain ⟨v9, w9, hr9, ow9, gr9, lo9⟩ := appP (OD.out.alloc (.cells #[.int .i64 y0, .int .i64 y1] 131)) 1 (pls_one (new_at wd _)) (by simp; omega) (by simp; omega)
    have hr9' := hr9 28
    have B9 := Lib.hid ((bAM BD.out s9 (.cells #[.int .i64 y0, .int .i64 y1] 131)).grown gr9 (by simp; omega) lo9)
    have O9 := Lib.hid ow9
    clear hr9 ow9 gr9 lo9
    go_wp2_with (at_builtin; refine Lib.wpList_append_run _ rfl _ _ _ _ rfl _ _ rfl rfl _ _ hr9' ?_)
    go_roundw
    case rel => exact ⟨k + 1, true, _, by go_num, rfl, by omega, O9, RQ, B9⟩
    case measure => simp [intOf]; omega
   | false =>
    by_cases hg : id < y0
    ·have RK := Lib.hid (rest_now pl (id, c) _ k hlt hp hg)
     have RQ := Lib.hid (show ws = ((ks ++ [(id, c)]) ++ [(y0, y1)]) ++ restL pl (id, c) true (k + 1) by rw [RW.out, RK.out]; simp)
     clear hlt hp
     have hg' : y0 > id := hg
     have KS := Lib.hid (And.intro (KX.out _ BD.out) (CX.out _ BD.out))
     clear RK RW OW
     go_wp2_with fail
     refine wp_region_held_drew (S := fun W => (w.heap.size < W.heap.size ∧ W.cell? ⟨w.heap.size, 0, none⟩ = some (.int .i64 id) ∧ W.cell? ⟨w.heap.size, 1, none⟩ = some (.int .i64 c)) ∧ cb < W.heap.size ∧ W.cell? ⟨cb, co + k * 2, none⟩ = some (.int .i64 y0) ∧ W.cell? ⟨cb, co + k * 2 + 1, none⟩ = some (.int .i64 y1)) (by kernel_rfl) ?_ (fun hHeld => ?_)
     ·exact KS.out
     refine tw (i := 0) rfl ?_
     refine tw (i := 1) rfl ?_
     refine tw (i := 2) rfl ?_
     refine tw (i := 3) rfl ?_
     try simp only [Act.put, setIfInBounds_toArray, set_cons_zero, set_cons_succ, getElem_toArray, getElem_cons_succ, getElem_cons_zero]
     refine tw (i := 4) rfl ?_
     refine tw (i := 5) rfl ?_
     refine tw (i := 6) rfl ?_
     refine tw (i := 7) rfl ?_
     try simp only [Act.put, setIfInBounds_toArray, set_cons_zero, set_cons_succ, getElem_toArray, getElem_cons_succ, getElem_cons_zero]
     refine tw (i := 8) rfl ?_
     refine tw (i := 9) rfl ?_
     refine tw (i := 10) rfl ?_
     refine tw (i := 11) rfl ?_
     try simp only [Act.put, setIfInBounds_toArray, set_cons_zero, set_cons_succ, getElem_toArray, getElem_cons_succ, getElem_cons_zero]
     refine wpAnyH_done (by kernel_rfl) ?_ _
     clear KS
     generalize wr.drew = wd at *
     obtain ⟨q0, q1, q2⟩ := KX.out _ BD.out
     have s7 := SX.out _ BD.out
     obtain ⟨v7, w7, hr7, ow7, gr7, lo7⟩ := appP (OD.out.alloc (.cells #[.int .i64 id, .int .i64 c] 131)) 1 (pls_one (new_at wd _)) (by simp; omega) (by simp; omega)
     have hr7' := hr7 28
     have B7 := Lib.hid ((bAM BD.out s7 (.cells #[.int .i64 id, .int .i64 c] 131)).grown gr7 (by simp; omega) lo7)
     have O7 := Lib.hid ow7
     clear hr7 ow7 gr7 lo7
     have hkl7 : (ks ++ [(id, c)]).length ≤ n + 2 := by simp; omega
     obtain ⟨e0, e1, e2⟩ := CX.out _ B7.out
     have s9 := SX.out _ B7.out
     obtain ⟨v9, w9, hr9, ow9, gr9, lo9⟩ := appP (O7.out.alloc (.cells #[.int .i64 y0, .int .i64 y1] 131)) 1 (pls_one (new_at w7 _)) (by simp; omega) (by simp; omega)
     have hr9' := hr9 28
     have B9 := Lib.hid ((bAM B7.out s9 (.cells #[.int .i64 y0, .int .i64 y1] 131)).grown gr9 (by simp; omega) lo9)
     have O9 := Lib.hid ow9
     clear hr9 ow9 gr9 lo9
     go_wp2_with (first | (at_builtin; refine Lib.wpList_append_run _ rfl _ _ _ _ rfl _ _ rfl rfl _ _ hr7' ?_) | (at_builtin; refine Lib.wpList_append_run _ rfl _ _ _ _ rfl _ _ rfl rfl _ _ hr9' ?_))
     go_roundw
     case rel => exact ⟨k + 1, true, _, by go_num, rfl, by omega, O9, RQ, B9⟩
     case measure => simp [intOf]; omega
    ·have RK := Lib.hid (rest_not pl (id, c) _ k hlt hp hg)
     have RQ := Lib.hid (show ws = (ks ++ [(y0, y1)]) ++ restL pl (id, c) false (k + 1) by rw [RW.out, RK.out]; simp)
     clear hlt hp
     have hg' : ¬ y0 > id := fun h => hg h
     have KS := Lib.hid (And.intro (KX.out _ BD.out) (CX.out _ BD.out))
     clear RK RW OW
     go_wp2_with fail
     refine wp_region_held_drew (S := fun W => (w.heap.size < W.heap.size ∧ W.cell? ⟨w.heap.size, 0, none⟩ = some (.int .i64 id) ∧ W.cell? ⟨w.heap.size, 1, none⟩ = some (.int .i64 c)) ∧ cb < W.heap.size ∧ W.cell? ⟨cb, co + k * 2, none⟩ = some (.int .i64 y0) ∧ W.cell? ⟨cb, co + k * 2 + 1, none⟩ = some (.int .i64 y1)) (by kernel_rfl) ?_ (fun hHeld => ?_)
     ·exact KS.out
     refine tw (i := 0) rfl ?_
     refine tw (i := 1) rfl ?_
     refine tw (i := 2) rfl ?_
     refine tw (i := 3) rfl ?_
     try simp only [Act.put, setIfInBounds_toArray, set_cons_zero, set_cons_succ, getElem_toArray, getElem_cons_succ, getElem_cons_zero]
     refine tw (i := 4) rfl ?_
     refine tw (i := 5) rfl ?_
     refine tw (i := 6) rfl ?_
     refine tw (i := 7) rfl ?_
     try simp only [Act.put, setIfInBounds_toArray, set_cons_zero, set_cons_succ, getElem_toArray, getElem_cons_succ, getElem_cons_zero]
     refine tw (i := 8) rfl ?_
     refine tw (i := 9) rfl ?_
     refine tw (i := 10) rfl ?_
     refine tw (i := 11) rfl ?_
     try simp only [Act.put, setIfInBounds_toArray, set_cons_zero, set_cons_succ, getElem_toArray, getElem_cons_succ, getElem_cons_zero]
     refine wpAnyH_done (by kernel_rfl) ?_ _
     clear KS
     generalize wr.drew = wd at *
     obtain ⟨e0, e1, e2⟩ := CX.out _ BD.out
     have s9 := SX.out _ BD.out
     obtain ⟨v9, w9, hr9, ow9, gr9, lo9⟩ := appP (OD.out.alloc (.cells #[.int .i64 y0, .int .i64 y1] 131)) 1 (pls_one (new_at wd _)) (by simp; omega) (by simp; omega)
     have hr9' := hr9 28
     have B9 := Lib.hid ((bAM BD.out s9 (.cells #[.int .i64 y0, .int .i64 y1] 131)).grown gr9 (by simp; omega) lo9)
     have O9 := Lib.hid ow9
     clear hr9 ow9 gr9 lo9
     go_wp2_with (at_builtin; refine Lib.wpList_append_run _ rfl _ _ _ _ rfl _ _ rfl rfl _ _ hr9' ?_)
     go_roundw
     case rel => exact ⟨k + 1, false, _, by go_num, rfl, by omega, O9, RQ, B9⟩
     case measure => simp [intOf]; omega
  ·have h1' : ¬ (k : Int) < (n : Int) := by omega
   have RE' := Lib.hid (RE.out b k (by omega))
   cases b with
   | true =>
    have F := Lib.hid (show ws = ks by rw [RW.out, RE'.out]; simp)
    have OF := Lib.hid (own_mono OW.out (show w.heap.size ≤ w.heap.size + 1 by omega))
    rw [← F.out] at OF
    have BF := Lib.hid (BX.out _ BW.out)
    clear F RW OW RE'
    go_wp2
    go_ret
    exact ⟨_, rfl, OF.out, BF.out⟩
   | false =>
    have F := Lib.hid (show ws = ks ++ [(id, c)] by rw [RW.out, RE'.out]; simp)
    obtain ⟨q0, q1, q2⟩ := KX.out _ BW.out
    have s7 := SX.out _ BW.out
    obtain ⟨v7, w7, hr7, ow7, gr7, lo7⟩ := appP (OW.out.alloc (.cells #[.int .i64 id, .int .i64 c] 131)) 1 (pls_one (new_at wr _)) (by simp; omega) (by simp; omega)
    have hr7' := hr7 28
    have B7 := Lib.hid ((bAM BW.out s7 (.cells #[.int .i64 id, .int .i64 c] 131)).grown gr7 (by simp; omega) lo7)
    have OF : Hid (w7.ownsRow w.heap.size 131 2 v7 ws.length (enCells ws)) := by
     show w7.ownsRow _ _ _ _ _ _
     rw [F.out]; exact own_mono ow7 (by omega)
    have BF := Lib.hid (BX.out _ B7.out)
    clear hr7 ow7 gr7 lo7 F RW OW RE' B7
    go_wp2_with (at_builtin; refine Lib.wpList_append_run _ rfl _ _ _ _ rfl _ _ rfl rfl _ _ hr7' ?_)
    go_ret
    exact ⟨_, rfl, OF.out, BF.out⟩
theorem own_row2 {w : World} {B : Nat} {v : Value} {pl : List LPl} (h : w.ownsRow B 131 2 v pl.length (enCells pl)) : ∃ s k, v = .slice s pl.length k ∧ Pls w s pl := by
 obtain ⟨s, k, e, h⟩ := own_pls h
 refine ⟨s, k, e, ?_⟩
 rcases h with h | ⟨c, e, h, _⟩
 ·exact .inl h
 ·exact .inr ⟨c, 0, e, h⟩
theorem own_empty {w W : World} (h : Below w.heap.size w W) : (W.alloc (.cells #[] 131)).ownsRow w.heap.size 131 2 (.slice (some ⟨W.heap.size, 0, none⟩) 0 0) ([] : List LPl).length (enCells []) ∧ Below w.heap.size w (W.alloc (.cells #[] 131)) :=
 ⟨own_mono (own_none2 W) h.size, bA h _⟩
set_option maxRecDepth 100000 in
set_option maxHeartbeats 8000000 in
theorem spa_any (sl : Option Addr) (cap : Nat) (sl2 : Option Addr) (cap2 : Nat) (sl3 : Option Addr) (cap3 : Nat) (rs : List LSt) (ps : List LPr) (pl : List LPl) (top id : Int) (w : World) (hn : rs.length ≤ 1048576) (hl : pl.length ≤ 1048576) (hz : Sts w sl rs) (hp : Prs w sl2 ps) (hi : Pls w sl3 pl) :
  Calls Tryz.prog 89 #[TV sl rs.length cap sl2 ps.length cap2, .int .i64 top, .slice sl3 pl.length cap3, .int .i64 id] w fun e w' => ∃ v, e = .returned v ∧ w'.ownsRow w.heap.size 131 2 v (addA rs ps top pl id).length (enCells (addA rs ps top pl id)) ∧ Below w.heap.size w w' := by
 have HT := Lib.hid (TabAtD.new w sl rs.length cap sl2 ps.length cap2)
 have B0 := Lib.hid (bA0 w (.cells #[.slice sl rs.length cap, .slice sl2 ps.length cap2] 26))
 have E1 := Lib.hid (spr_any sl cap sl2 cap2 sl3 cap3 rs ps pl top _ hn hl (hz.below B0.out) (hp.below B0.out) (hi.below B0.out))
 have EE := Lib.hid (fun W (h : Below w.heap.size w W) => own_empty h)
 obtain ⟨t0, t1⟩ := HT.out.cells
 have tl := HT.out.lt
 by_cases c1 : planB rs ps top pl = true
 ·rw [c1] at E1
  have ok := (planB_ok rs ps top pl).1 c1
  have TR := ok.ids.2.1
  have E2 : Hid (∀ W, Below w.heap.size w W → Calls Tryz.prog 88 #[.slice sl3 pl.length cap3] W fun e w' => ∃ v, e = .returned v ∧ w'.ownsRow W.heap.size 2 1 v (pidsL pl).length (valsZ (pidsL pl)) ∧ Below W.heap.size W w') := fun W hW => by
   have := spi_any sl3 cap3 pl W (by unfold maxLen; omega) (hi.below hW)
   rwa [show pidsA pl = pidsL pl from if_pos ok.ln] at this
  have E3 : Hid (∀ s k W, Ints W s (pidsL pl) → Calls Tryz.prog 87 #[.slice s (pidsL pl).length k, .int .i64 id] W fun e w' => e = .returned (.bool (B (id ∈ pidsL pl))) ∧ w' = W) := fun s k W hi' => lh_any s k (pidsL pl) id W (by rw [pidsL_len]; unfold maxLen; omega) hi'
  have OI := Lib.hid (fun B v (W : World) (o : W.ownsRow B 2 1 v (pidsL pl).length (valsZ (pidsL pl))) => own_ints o)
  by_cases c2 : id ∈ pidsL pl
  ·rw [addA_no (fun g => g.2 c2)]
   rw [B_yes c2] at E3
   clear hz hp hi c1 ok TR c2 hn hl
   generalize rs.length = rn at *
   generalize ps.length = pq at *
   generalize pl.length = pn at *
   generalize pidsL pl = pd at *
   go_enter Tryz.func89, Tryz.ntmps89
   go_wp2_with fail
   refine E1.out.mono ?_
   rintro e w1 ⟨rfl, b1⟩
   have D1 := Lib.hid (bT B0.out b1)
   clear b1 E1 HT B0 t0 t1 tl
   go_wp2_with fail
   refine (E2.out _ D1.out).mono ?_
   rintro e w2 ⟨v2, rfl, o2, b2⟩
   have D2 := Lib.hid (bT D1.out b2)
   obtain ⟨s2, k2, rfl, i2⟩ := OI.out _ _ _ o2
   have T3 := Lib.hid (E3.out s2 k2 w2 i2)
   clear b2 o2 i2 E2 D1 E3
   go_wp2_with fail
   refine T3.out.mono ?_
   rintro e w3 ⟨rfl, rfl⟩
   have FF := Lib.hid (EE.out _ D2.out)
   clear T3
   go_wp2
   go_ret
   exact ⟨_, rfl, FF.out.1, FF.out.2⟩
  rw [addA_yes ⟨c1, c2⟩]
  rw [B_no c2] at E3
  have E5 : Hid (∀ W, Below w.heap.size w W → Calls Tryz.prog 145 #[TV sl rs.length cap sl2 ps.length cap2, .int .i64 id, .int .i64 top] W fun e w' => ∃ v, e = .returned v ∧ w'.ownsRow W.heap.size 2 1 v (rs.flatMap (domF id top)).length (valsZ (rs.flatMap (domF id top))) ∧ Below W.heap.size W w') := fun W hW => by
   have := sdo_any sl cap sl2 cap2 rs ps id top W hn (hz.below hW) (hp.below hW)
   rwa [show domA rs ps id top = rs.flatMap (domF id top) by unfold domA; rw [B_yes TR]; rfl] at this
  have hl12 : pl.length ≤ 12 := by have := ids_few ok.ids; rwa [pidsL_len] at this
  have E6 : Hid (∀ W c, Below w.heap.size w W → Calls Tryz.prog 90 #[.slice sl3 pl.length cap3, .agg #[.int .i64 id, .int .i64 c]] W fun e w' => ∃ v, e = .returned v ∧ w'.ownsRow W.heap.size 131 2 v (withL pl (id, c)).length (enCells (withL pl (id, c))) ∧ Below W.heap.size W w') := fun W c hW => wi_any sl3 cap3 pl id c W (by omega) (hi.below hW)
  have E7 : Hid (∀ W c s k, Below w.heap.size w W → c ∈ rs.flatMap (domF id top) → Pls W s (withL pl (id, c)) → Calls Tryz.prog 85 #[TV sl rs.length cap sl2 ps.length cap2, .int .i64 top, .slice s (withL pl (id, c)).length k] W fun e w' => e = .returned (.bool (fitB ps pl (id, c))) ∧ Below W.heap.size W w') := fun W c s k hW hc hs => by
   have := spr_any sl cap sl2 cap2 s k rs ps (withL pl (id, c)) top W hn (by rw [withL_len]; omega) (hz.below hW) (hp.below hW) hs
   rwa [add_iff ok c2 hc] at this
  have DL := dom_le rs ps id top TR
  have DM := Lib.hid (show ∀ k, k < (rs.flatMap (domF id top)).length → (rs.flatMap (domF id top)).getD k 0 ∈ rs.flatMap (domF id top) from fun k hk => getD_mem hk)
  clear hz hp hi c1 c2 ok TR hn hl hl12
  generalize hDS : rs.flatMap (domF id top) = ds at *
  clear hDS
  have AS := Lib.hid (fun k (h : k < ds.length) => addL_step ps pl id ds k h)
  have AE := Lib.hid (fun k (h : ds.length ≤ k) => addL_end ps pl id ds k h)
  have A0 := Lib.hid (show addL ps pl id (ds.drop 0) = addL ps pl id ds by simp)
  generalize hR : addL ps pl id ds = R at *
  clear hR
  have DI := Lib.hid (fun B v (W : World) (o : W.ownsRow B 2 1 v ds.length (valsZ ds)) => own_ints o)
  generalize hDN : ds.length = dn at *
  have HDN := Lib.hid hDN
  clear hDN
  generalize rs.length = rn at *
  generalize ps.length = pq at *
  generalize hPN : pl.length = pn at *
  clear hPN
  go_enter Tryz.func89, Tryz.ntmps89
  go_wp2_with fail
  refine E1.out.mono ?_
  rintro e w1 ⟨rfl, b1⟩
  have D1 := Lib.hid (bT B0.out b1)
  have T1 := Lib.hid (HT.out.below b1)
  clear b1 E1 HT B0 t0 t1 tl
  go_wp2_with fail
  refine (E2.out _ D1.out).mono ?_
  rintro e w2 ⟨v2, rfl, o2, b2⟩
  have D2 := Lib.hid (bT D1.out b2)
  have T2 := Lib.hid (T1.out.below b2)
  obtain ⟨s2, k2, rfl, i2⟩ := OI.out _ _ _ o2
  have C3 := Lib.hid (E3.out s2 k2 w2 i2)
  clear b2 o2 i2 E2 D1 E3 T1 OI
  obtain ⟨t0, t1⟩ := T2.out.cells
  have tl := T2.out.lt
  go_wp2_with fail
  refine C3.out.mono ?_
  rintro e w3 ⟨rfl, rfl⟩
  clear C3
  go_wp2_with fail
  refine (E5.out _ D2.out).mono ?_
  rintro e w5 ⟨v5, rfl, o5, b5⟩
  have D5 := Lib.hid (bT D2.out b5)
  have T5 := Lib.hid (T2.out.below b5)
  obtain ⟨s5, k5, rfl, i5⟩ := DI.out _ _ _ o5
  have I5 := Lib.hid i5
  clear b5 o5 i5 D2 T2 t0 t1 tl E5 DI
  go_wp2
  go_loopw [10] (fun i wr => ∃ k : Nat, i = .int .i64 k ∧ k ≤ dn ∧ Hid (addL ps pl id (ds.drop k) = R) ∧ Hid (Below w5.heap.size w5 wr)) (fun i _ => dn - (intOf i).toNat)
  case atStart => exact ⟨0, rfl, Nat.zero_le _, A0, Below.refl _ _⟩
  case round =>
   obtain ⟨k, rfl, hk, HA, HB⟩ := hrel
   have hk0 : (0 : Int) ≤ (k : Int) := by omega
   have DW := Lib.hid (bT D5.out HB.out)
   by_cases h1 : k < dn
   ·have h1' : (k : Int) < (dn : Int) := by omega
    have hlt : k < ds.length := by rw [HDN.out]; exact h1
    obtain ⟨cb, co, rfl, ZI⟩ : ∃ cb co, s5 = some ⟨cb, co, none⟩ ∧ IntsAt w5 cb co ds := by
     rcases I5.out with e | h
     ·rw [e] at hlt; simp at hlt
     ·exact h
    have hcell : wr.cell? ⟨cb, co + k, none⟩ = some (.int .i64 (ds.getD k 0)) := (HB.out.cell (p := ⟨cb, co + k, none⟩) ZI.1).trans (ZI.2 k hlt)
    have TW := Lib.hid (T5.out.below HB.out)
    have CF := Lib.hid (E6.out wr (ds.getD k 0) DW.out)
    have ASK := Lib.hid (AS.out k h1)
    have CM := Lib.hid (DM.out k h1)
    clear hlt ZI
    generalize ds.getD k 0 = c at *
    have E8 := Lib.hid (fun W s k (h1 : Below w.heap.size w W) (h2 : Pls W s (withL pl (id, c))) => E7.out W c s k h1 CM.out h2)
    have OR := Lib.hid (fun B v (W : World) (o : W.ownsRow B 131 2 v (withL pl (id, c)).length (enCells (withL pl (id, c)))) => own_row2 o)
    clear AS
    by_cases hf : fitB ps pl (id, c) = true
    ·have ER := Lib.hid (show R = withL pl (id, c) by rw [← HA.out, ASK.out, if_pos hf])
     rw [hf] at E8
     generalize withL pl (id, c) = ws at *
     clear ASK HA AE E7
     generalize hWN : ws.length = wn at *
     have HWN := Lib.hid hWN
     clear hWN
     go_wp2_with fail
     refine CF.out.mono ?_
     rintro e w7 ⟨v7, rfl, o7, b7⟩
     have D7 := Lib.hid (bT DW.out b7)
     have T7 := Lib.hid (TW.out.below b7)
     have O7 := Lib.hid o7
     obtain ⟨s7, k7, rfl, p7⟩ := OR.out _ _ _ o7
     have C8 := Lib.hid (E8.out w7 s7 k7 D7.out p7)
     have W7 := Lib.hid DW.out.size
     clear b7 o7 p7 CF E8 TW DW OR
     obtain ⟨t0, t1⟩ := T7.out.cells
     have tl := T7.out.lt
     go_wp2_with fail
     refine C8.out.mono ?_
     rintro e w8 ⟨rfl, b8⟩
     have D8 := Lib.hid (bT D7.out b8)
     have O8 := Lib.hid (own_mono (own_below O7.out b8) W7.out)
     clear b8 C8 t0 t1 tl T7 D7 O7
     go_wp2
     go_ret
     exact ⟨_, rfl, by rw [ER.out, HWN.out]; exact O8.out, D8.out⟩
    ·have HA2 := Lib.hid (show addL ps pl id (ds.drop (k + 1)) = R by rw [← HA.out, ASK.out, if_neg hf])
     rw [Bool.not_eq_true] at hf
     rw [hf] at E8
     generalize withL pl (id, c) = ws at *
     clear ASK HA AE E7
     generalize hWN : ws.length = wn at *
     clear hWN
     go_wp2_with fail
     refine CF.out.mono ?_
     rintro e w7 ⟨v7, rfl, o7, b7⟩
     have D7 := Lib.hid (bT DW.out b7)
     have F7 := Lib.hid (bT HB.out b7)
     have T7 := Lib.hid (TW.out.below b7)
     obtain ⟨s7, k7, rfl, p7⟩ := OR.out _ _ _ o7
     have C8 := Lib.hid (E8.out w7 s7 k7 D7.out p7)
     clear b7 o7 p7 CF E8 TW DW OR HB
     obtain ⟨t0, t1⟩ := T7.out.cells
     have tl := T7.out.lt
     go_wp2_with fail
     refine C8.out.mono ?_
     rintro e w8 ⟨rfl, b8⟩
     have F8 := Lib.hid (bT F7.out b8)
     clear b8 C8 t0 t1 tl T7 D7 F7
     go_wp2
     go_roundw
     case rel => exact ⟨k + 1, by go_num, by omega, HA2, F8⟩
     case measure => simp [intOf]; omega
   ·have h1' : ¬ (k : Int) < (dn : Int) := by omega
    have ER := Lib.hid (show R = [] by rw [← HA.out, AE.out k (by omega)])
    have FF := Lib.hid (EE.out _ DW.out)
    clear HA AE AS
    go_wp2
    go_ret
    exact ⟨_, rfl, by rw [ER.out]; exact FF.out.1, FF.out.2⟩
 ·rw [addA_no (fun g => c1 g.1)]
  rw [Bool.not_eq_true] at c1
  rw [c1] at E1
  clear hz hp hi c1 hn hl
  generalize rs.length = rn at *
  generalize ps.length = pq at *
  generalize pl.length = pn at *
  go_enter Tryz.func89, Tryz.ntmps89
  go_wp2_with fail
  refine E1.out.mono ?_
  rintro e w1 ⟨rfl, b1⟩
  have D1 := Lib.hid (bT B0.out b1)
  have FF := Lib.hid (EE.out _ D1.out)
  clear b1 E1 HT B0 t0 t1 tl
  go_wp2
  go_ret
  exact ⟨_, rfl, FF.out.1, FF.out.2⟩
end Go.Proofs.YtnihhbfgbilimaaGreatDoor
