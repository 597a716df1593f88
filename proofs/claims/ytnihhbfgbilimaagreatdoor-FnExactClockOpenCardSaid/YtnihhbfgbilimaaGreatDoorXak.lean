import Derived.Test.YtnihhbfgbilimaaGreatDoorTw
import Derived.Test.YtnihhbfgbilimaaGreatDoorZPm
import Derived.Test.YtnihhbfgbilimaaGreatDoorZUa
import Derived.Test.YtnihhbfgbilimaaGreatDoorXai
import Derived.Test.YtnihhbfgbilimaaGreatDoorXaj
import Derived.Sort.OwnSorted
import Derived.Laws.StructEq
namespace Go.Proofs.YtnihhbfgbilimaaGreatDoor
open Go.RowKit
set_option linter.unusedVariables false
open List (setIfInBounds_toArray set_cons_zero set_cons_succ getElem_toArray getElem_cons_succ getElem_cons_zero)
theorem own_none (w : World) : (w.alloc (.cells #[] 2)).ownsRow w.heap.size 2 1 (.slice (some ⟨w.heap.size, 0, none⟩) 0 0) 0 [] :=
 ⟨rfl, .inr ⟨w.heap.size, 0, #[], rfl, Nat.le_refl _, by show (w.heap.push _)[w.heap.size]? = _; simp, Nat.le_refl _, Nat.zero_le _, rfl, rfl⟩⟩
def FF (x id top : Int) (l : List Int) : List Int := if x = id then l.filter (fun c => decide (c ≤ top)) else []
def domF (id top : Int) (r : LSt) : List Int := FF r.1 id top r.2.2.2
theorem FF_nil (x id top : Int) : FF x id top [] = [] := by unfold FF; split <;> simp
theorem FF_yes (x id top : Int) (zs : List Int) (j : Nat) (h : j < zs.length) (h1 : x = id) (h2 : zs.getD j 0 ≤ top) : FF x id top (zs.take (j + 1)) = FF x id top (zs.take j) ++ [zs.getD j 0] := by
 have e : zs.getD j 0 = zs[j] := by simp [h]
 rw [e] at h2 ⊢
 subst h1
 unfold FF
 rw [if_pos rfl, if_pos rfl, List.take_succ_eq_append_getElem h, List.filter_append]
 simp [h2]
theorem FF_no (x id top : Int) (zs : List Int) (j : Nat) (h : j < zs.length) (h1 : ¬ (x = id ∧ zs.getD j 0 ≤ top)) : FF x id top (zs.take (j + 1)) = FF x id top (zs.take j) := by
 have e : zs.getD j 0 = zs[j] := by simp [h]
 rw [e] at h1
 unfold FF
 by_cases hx : x = id
 ·have h2 : ¬ zs[j] ≤ top := fun g => h1 ⟨hx, g⟩
  rw [if_pos hx, if_pos hx, List.take_succ_eq_append_getElem h, List.filter_append]
  simp [h2]
 ·simp [hx]
def SAt (w : World) (b : Nat) (x y : Int) (d : Value) : Prop := w.heap[b]? = some (.cells #[.int .i64 x, .int .i64 y, d] 92)
theorem SAt.lt {w : World} {b : Nat} {x y : Int} {d : Value} (h : SAt w b x y d) : b < w.heap.size := (Array.getElem?_eq_some_iff.1 h).1
theorem SAt.cells {w : World} {b : Nat} {x y : Int} {d : Value} (h : SAt w b x y d) : w.cell? ⟨b, 0, none⟩ = some (.int .i64 x) ∧ w.cell? ⟨b, 2, none⟩ = some d := by
 unfold SAt at h
 constructor <;> simp [World.cell?, h]
noncomputable def domA (rs : List LSt) (ps : List LPr) (id top : Int) : List Int := if B (TabR rs ps) = true then rs.flatMap (domF id top) else []
theorem rise_lt (zs : List Int) (lo hi : Int) (h : InRise lo hi zs) : ∀ i j, i < j → j < zs.length → zs.getD i 0 < zs.getD j 0 := by
 intro i j hij hj
 induction j with
 | zero => omega
 | succ j ih =>
  have h1 := (h (j + 1) hj).2 (by omega)
  simp only [Nat.add_sub_cancel] at h1
  by_cases e : i = j
  ·subst e; exact h1
  ·have := ih (by omega) (by omega); omega
theorem flat_none (id top : Int) (rs : List LSt) (h : id ∉ idsL rs) : rs.flatMap (domF id top) = [] := by
 rw [List.flatMap_eq_nil_iff]
 intro r hr
 unfold domF FF
 rw [if_neg]
 rintro rfl
 exact h (List.mem_map.2 ⟨r, hr, rfl⟩)
theorem flat_one (id top : Int) (rs : List LSt) (k : Nat) (h : k < rs.length) (hk : rs[k].1 = id) (hu : ∀ i (h : i < rs.length), i ≠ k → rs[i].1 ≠ id) : rs.flatMap (domF id top) = rs[k].2.2.2.filter (fun c => decide (c ≤ top)) := by
 have e : rs = rs.take k ++ rs[k] :: rs.drop (k + 1) := by rw [List.getElem_cons_drop, List.take_append_drop]
 have h1 : (rs.take k).flatMap (domF id top) = [] := by
  rw [List.flatMap_eq_nil_iff]
  intro r hr
  obtain ⟨i, hi, rfl⟩ := List.getElem_of_mem hr
  rw [List.length_take] at hi
  unfold domF FF
  rw [if_neg]
  rw [List.getElem_take]
  exact hu i (by omega) (by omega)
 have h2 : (rs.drop (k + 1)).flatMap (domF id top) = [] := by
  rw [List.flatMap_eq_nil_iff]
  intro r hr
  obtain ⟨i, hi, rfl⟩ := List.getElem_of_mem hr
  rw [List.length_drop] at hi
  unfold domF FF
  rw [if_neg]
  rw [List.getElem_drop]
  exact hu (k + 1 + i) (by omega) (by omega)
 have h3 : domF id top rs[k] = rs[k].2.2.2.filter (fun c => decide (c ≤ top)) := by
  unfold domF FF
  rw [if_pos hk]
 calc rs.flatMap (domF id top) = (rs.take k ++ rs[k] :: rs.drop (k + 1)).flatMap (domF id top) := by rw [← e]
  _ = rs[k].2.2.2.filter (fun c => decide (c ≤ top)) := by rw [List.flatMap_append, h1, List.flatMap_cons, h2, h3]; simp
theorem idsL_at (rs : List LSt) (k : Nat) (h : k < (idsL rs).length) (h2 : k < rs.length) : (idsL rs)[k] = rs[k].1 := by simp [idsL]
theorem pos_at (rs : List LSt) (id : Int) (h : id ∈ idsL rs) : ∃ k, ∃ hk : k < rs.length, posOf (idsL rs) id = (k : Int) ∧ rs[k].1 = id := by
 have h1 := List.idxOf_lt_length_iff.2 h
 have h2 : (idsL rs).idxOf id < rs.length := by rwa [idsL_len] at h1
 refine ⟨(idsL rs).idxOf id, h2, by unfold posOf; rw [if_pos h1], ?_⟩
 rw [← idsL_at rs _ h1 h2]
 exact List.getElem_idxOf h1
set_option maxRecDepth 100000 in
set_option maxHeartbeats 1000000 in
theorem sdo_any (sl : Option Addr) (cap : Nat) (sl2 : Option Addr) (cap2 : Nat) (rs : List LSt) (ps : List LPr) (id top : Int) (w : World) (hn : rs.length ≤ 1048576) (hz : Sts w sl rs) (hp : Prs w sl2 ps) :
  Calls Tryz.prog 145 #[TV sl rs.length cap sl2 ps.length cap2, .int .i64 id, .int .i64 top] w fun e w' => ∃ v, e = .returned v ∧ w'.ownsRow w.heap.size 2 1 v (domA rs ps id top).length (valsZ (domA rs ps id top)) ∧ Below w.heap.size w w' := by
 obtain ⟨i0, hi0, hz0, hz1, hz2⟩ := info_parts info2'
 have HT := Lib.hid (TabAtE.new w sl rs.length cap sl2 ps.length cap2)
 have B0 := Lib.hid (bA0 w (.cells #[.slice sl rs.length cap, .slice sl2 ps.length cap2] 26))
 have E1 : Hid (∀ W, Below w.heap.size w W → Calls Tryz.prog 110 #[TV sl rs.length cap sl2 ps.length cap2] W fun e w' => e = .returned (.bool (B (TabR rs ps))) ∧ Below W.heap.size W w') := fun W hW => str_anyD sl cap sl2 cap2 rs ps W (hz.below hW) (hp.below hW)
 have E2 : Hid (∀ W, Below w.heap.size w W → Calls Tryz.prog 86 #[TV sl rs.length cap sl2 ps.length cap2, .int .i64 id] W fun e w' => e = .returned (.int .i64 (posOf (idsL rs) id)) ∧ Below W.heap.size W w') := fun W hW => fd_any sl cap sl2 _ cap2 id rs W hn (hz.below hW)
 have HZ := Lib.hid hz
 clear hz hp
 unfold domA
 have O0 := Lib.hid (own_none (w.alloc (.cells #[.slice sl rs.length cap, .slice sl2 ps.length cap2] 26)))
 have hs1 : (w.alloc (.cells #[.slice sl rs.length cap, .slice sl2 ps.length cap2] 26)).heap.size = w.heap.size + 1 := by simp
 rw [hs1] at O0
 cases hb : B (TabR rs ps) with
 | false =>
  rw [hb] at E1
  simp only [Bool.false_eq_true, if_false]
  generalize rs.length = n at *
  generalize ps.length = m at *
  clear hb E2
  go_enter Tryz.func145, Tryz.ntmps145
  go_wp2_with fail
  refine (E1.out _ (bA B0.out _)).mono ?_
  rintro e w1 ⟨rfl, b1⟩
  have D1 := Lib.hid (bT (bA B0.out _) b1)
  have O1 := Lib.hid (own_mono (own_below O0.out b1) (Nat.le_add_right w.heap.size 1))
  clear b1 E1
  go_wp2
  go_ret
  exact ⟨_, rfl, O1.out, D1.out⟩
 | true =>
  rw [hb] at E1
  simp only [if_true]
  have TR := Lib.hid (B_true hb)
  by_cases hm : id ∈ idsL rs
  ·obtain ⟨k, hk, ep, hid⟩ := pos_at rs id hm
   have hu : ∀ i (h : i < rs.length), i ≠ k → rs[i].1 ≠ id := fun i hi hne e => by
    have r := rise_lt _ _ _ TR.out.2.2.1
    rw [← hid, ← idsL_get rs i hi, ← idsL_get rs k hk] at e
    rcases Nat.lt_or_gt_of_ne hne with g | g
    ·have := r i k g (by rw [idsL_len]; exact hk); omega
    ·have := r k i g (by rw [idsL_len]; exact hi); omega
   rw [flat_one id top rs k hk hid hu, show rs[k].2.2.2.filter (fun c => decide (c ≤ top)) = FF id id top rs[k].2.2.2 from (if_pos rfl).symm]
   rw [ep] at E2
   obtain ⟨sld, capd, ed, hi, -⟩ := HZ.out.dom rs[k] (List.getElem_mem hk)
   have hd8 := (TR.out.2.1 rs[k] (List.getElem_mem hk)).2.1.2
   obtain ⟨c, o, rfl, Z0⟩ : ∃ c o, sl = some ⟨c, o, none⟩ ∧ StAt w c o rs := by
    rcases HZ.out.row with e | h
    ·rw [e] at hk; simp at hk
    ·exact h
   have HC2 := Lib.hid (And.intro Z0.lt (Z0.cell k hk).2.2)
   rw [ed] at HC2
   generalize rs[k].2.2.2 = zs at *
   have HI := Lib.hid hi
   clear hi ed hu hid Z0 hm ep hb
   generalize rs.length = n at *
   generalize ps.length = m at *
   have hk' : (k : Int) < (n : Int) := by omega
   have hk0 : ¬ (k : Int) < 0 := by omega
   generalize hQ : zs.length = q at *
   have HQ := Lib.hid hQ
   clear hQ
   go_enter Tryz.func145, Tryz.ntmps145
   go_wp2_with fail
   refine (E1.out _ (bA B0.out _)).mono ?_
   rintro e w1 ⟨rfl, b1⟩
   have D1 := Lib.hid (bT (bA B0.out _) b1)
   have O1 := Lib.hid (own_below O0.out b1)
   have T1 := Lib.hid ((HT.out.below (bA0 _ _)).below b1)
   clear b1 E1 HT O0
   obtain ⟨t0, t1⟩ := T1.out.cells
   have tl := T1.out.lt
   go_wp2_with fail
   refine (E2.out _ D1.out).mono ?_
   rintro e w2 ⟨rfl, b2⟩
   have D2 := Lib.hid (bT D1.out b2)
   have O2 := Lib.hid (own_below O1.out b2)
   have T2 := Lib.hid (T1.out.below b2)
   clear b2 t0 t1 tl O1 D1 T1
   obtain ⟨t0, t1⟩ := T2.out.cells
   have tl := T2.out.lt
   have KX : Hid (∀ W, Below w2.heap.size w2 W → w.heap.size < W.heap.size ∧ W.cell? ⟨w.heap.size, 0, none⟩ = some (.slice (some ⟨c, o, none⟩) n cap) ∧ W.cell? ⟨w.heap.size, 1, none⟩ = some (.slice sl2 m cap2) ∧ c < W.heap.size ∧ W.cell? ⟨c, o + k * 3 + 2, none⟩ = some (.slice sld q capd)) := fun W hW => by
    have r1 := (T2.out.below hW).cells
    have dw := bT D2.out hW
    exact ⟨(T2.out.below hW).lt, r1.1, r1.2, Nat.lt_of_lt_of_le HC2.out.1 dw.size, (dw.cell HC2.out.1).trans HC2.out.2⟩
   go_wp2_with fail
   refine wp_region_held_drew (S := fun W => w.heap.size < W.heap.size ∧ W.cell? ⟨w.heap.size, 0, none⟩ = some (.slice (some ⟨c, o, none⟩) n cap) ∧ W.cell? ⟨w.heap.size, 1, none⟩ = some (.slice sl2 m cap2) ∧ c < W.heap.size ∧ W.cell? ⟨c, o + k * 3 + 2, none⟩ = some (.slice sld q capd)) (by kernel_rfl) ?_ (fun hHeld => ?_)
   ·exact KX.out _ (Below.refl _ _).drew
   refine tw (i := 0) rfl ?_
   refine tw (i := 1) rfl ?_
   refine tw (i := 2) rfl ?_
   refine tw (i := 3) rfl ?_
   try simp only [Act.put, setIfInBounds_toArray, set_cons_zero, set_cons_succ, getElem_toArray, getElem_cons_succ, getElem_cons_zero]
   refine wpAnyH_ready (rs := [4]) (by kernel_rfl) (by simp) ?_
   refine AllReadyH.cons rfl (fun K hK => ?_) AllReadyH.nil
   go_simp
   go_wp2_with (go_at_call 86; refine (E2.out _ D2.out.drew).mono ?_; rintro e w3 ⟨rfl, b3⟩)
   have D3 : Hid (Below w2.heap.size w2 w3) := bT ((Below.refl w2.heap.size w2).drew) b3
   clear b3
   refine hK.out _ _ ?_ (fun hHeld => ?_)
   ·exact KX.out _ D3.out
   clear hK K
   refine tw (i := 5) rfl ?_
   refine tw (i := 6) rfl ?_
   refine tw (i := 7) rfl ?_
   refine tw (i := 8) rfl ?_
   try simp only [Act.put, setIfInBounds_toArray, set_cons_zero, set_cons_succ, getElem_toArray, getElem_cons_succ, getElem_cons_zero]
   refine wpAnyH_done (by kernel_rfl) ?_ _
   have B3 := Lib.hid (bT D2.out D3.out)
   have O3 := Lib.hid (own_below O2.out D3.out)
   have hs3 := B3.out.size
   have hs4 : w.heap.size + 1 < w3.heap.size := (O3.out.lt (w.heap.size + 1) rfl).2
   clear KX D3 O2 D2 T2 E2 t0 t1 tl
   generalize hA : FF id id top zs = ans
   have HA := Lib.hid hA
   clear hA
   go_wp2
   go_loopw [7, 9] (fun v i wr => ∃ (j : Nat) (cu : List Int), i = .int .i64 j ∧ j ≤ q ∧ cu.length ≤ j ∧ Hid (cu = FF id id top (zs.take j)) ∧ Hid (wr.ownsRow (w.heap.size + 1) 2 1 v cu.length (valsZ cu)) ∧ Hid (Below (w.heap.size + 1) w3 wr)) (fun _ i _ => q - (intOf i).toNat)
   case atStart => exact ⟨0, [], rfl, Nat.zero_le _, Nat.zero_le _, (by show [] = FF id id top (zs.take 0); rw [List.take_zero, FF_nil]), O3, Below.refl _ _⟩
   case round =>
    obtain ⟨j, cu, rfl, hj, hcu, HC, H1, H2⟩ := hrel
    have hj0 : (0 : Int) ≤ (j : Int) := by omega
    have hs5 := H2.out.size
    have DV := Lib.hid (B3.out.trans (H2.out.mono (Nat.le_add_right _ 1)))
    by_cases g1 : j < q
    ·have g1' : (j : Int) < (q : Int) := by omega
     have hlt : j < zs.length := by rw [HQ.out]; exact g1
     obtain ⟨cd, od, rfl, ZI⟩ : ∃ c o, sld = some ⟨c, o, none⟩ ∧ IntsAt w c o zs := by
      rcases HI.out with e | h
      ·rw [e] at hlt; simp at hlt
      ·exact h
     have hc := (DV.out.cell (p := ⟨cd, od + j, none⟩) ZI.1).trans (ZI.2 j hlt)
     by_cases a2 : zs.getD j 0 ≤ top
     ·have HN2 := Lib.hid (show cu ++ [zs.getD j 0] = FF id id top (zs.take (j + 1)) by rw [FF_yes id id top zs j hlt rfl a2, ← HC.out])
      have EV := Lib.hid (show valsZ cu ++ [.int .i64 (zs.getD j 0)] = valsZ (cu ++ [zs.getD j 0]) by simp [valsZ])
      generalize zs.getD j 0 = z at *
      clear hlt ZI HC
      go_wp2_with (first | (at_builtin; refine wpList_append_lies _ rfl (.tmp 41) (.tmp 46) 34 rfl (w.heap.size + 1) 2 i0 (.int .i64 0) 1 8 Tryz.underlying34 hi0 hz0 hz1 hz2 rfl (by decide) _ _ _ rfl (H1.out.alloc _) ⟨wr.heap.size, 0, none⟩ 1 1 [.int .i64 z] rfl rfl (cell_one_new _ _ _) (by intro u hu; simp at hu; subst hu; rfl) (by decide) (by unfold maxLen; omega) (by omega) (by simp; omega) (wr.heap.size + 1) (by simp) ?_))
      intro g9 cap9 w9 own9 grow9 hg9 hlt9
      have B9 := Lib.hid ((H2.out.alloc (by omega) (.cells #[.int .i64 z] 2)).grown grow9 (by simp; omega) (fun j hj => (H1.out.lt j hj).1))
      rw [EV.out] at own9
      have N9 : Hid (w9.ownsRow (w.heap.size + 1) 2 1 (.slice (some ⟨g9, 0, none⟩) (cu.length + 1) cap9) (cu ++ [z]).length (valsZ (cu ++ [z]))) := by
       rw [List.length_append]; exact own9
      have LL := Lib.hid (show (cu ++ [z]).length ≤ j + 1 by rw [List.length_append]; simp; omega)
      clear own9 grow9 hg9 hlt9 H1 H2 EV
      go_wp2
      go_roundw
      case rel => exact ⟨j + 1, cu ++ [z], by go_num, by omega, LL.out, HN2, N9, B9⟩
      case measure => simp [intOf]; omega
     ·have HN2 := Lib.hid (show cu = FF id id top (zs.take (j + 1)) by rw [FF_no id id top zs j hlt (fun g => a2 g.2)]; exact HC.out)
      generalize zs.getD j 0 = z at *
      clear hlt ZI HC
      go_wp2
      go_roundw
      case rel => exact ⟨j + 1, cu, by go_num, by omega, by omega, HN2, H1, H2⟩
      case measure => simp [intOf]; omega
    ·have g1' : ¬ (j : Int) < (q : Int) := by omega
     have P := Lib.hid (show cu = ans by rw [HC.out, List.take_of_length_le (by rw [HQ.out]; omega), HA.out])
     have OP := Lib.hid (own_mono H1.out (Nat.le_add_right w.heap.size 1))
     rw [P.out, ← HA.out] at OP
     clear H1 HC P
     go_wp2
     go_ret
     exact ⟨_, rfl, OP.out, DV.out⟩
  ·rw [flat_none id top rs hm]
   rw [posOf_miss hm] at E2
   clear hm hb
   generalize rs.length = n at *
   generalize ps.length = m at *
   go_enter Tryz.func145, Tryz.ntmps145
   go_wp2_with fail
   refine (E1.out _ (bA B0.out _)).mono ?_
   rintro e w1 ⟨rfl, b1⟩
   have D1 := Lib.hid (bT (bA B0.out _) b1)
   have O1 := Lib.hid (own_below O0.out b1)
   have T1 := Lib.hid ((HT.out.below (bA0 _ _)).below b1)
   clear b1 E1 HT O0
   obtain ⟨t0, t1⟩ := T1.out.cells
   have tl := T1.out.lt
   go_wp2_with fail
   refine (E2.out _ D1.out).mono ?_
   rintro e w2 ⟨rfl, b2⟩
   have D2 := Lib.hid (bT D1.out b2)
   have O2 := Lib.hid (own_mono (own_below O1.out b2) (Nat.le_add_right w.heap.size 1))
   clear b2
   go_wp2
   go_ret
   exact ⟨_, rfl, O2.out, D2.out⟩
abbrev LPl := Int × Int
structure PlAt (w : World) (c o : Nat) (pl : List LPl) : Prop where
 lt : c < w.heap.size
 cell : ∀ i (h : i < pl.length), w.cell? ⟨c, o + i * 2, none⟩ = some (.int .i64 pl[i].1) ∧ w.cell? ⟨c, o + i * 2 + 1, none⟩ = some (.int .i64 pl[i].2)
def Pls (w : World) (sl : Option Addr) (pl : List LPl) : Prop := pl = [] ∨ ∃ c o, sl = some ⟨c, o, none⟩ ∧ PlAt w c o pl
theorem PlAt.below {w w' : World} {c o : Nat} {pl : List LPl} (h : PlAt w c o pl) (hb : Below w.heap.size w w') : PlAt w' c o pl :=
 ⟨Nat.lt_of_lt_of_le h.lt hb.size, fun i hi => ⟨(hb.cell h.lt).trans (h.cell i hi).1, (hb.cell h.lt).trans (h.cell i hi).2⟩⟩
theorem Pls.below {w w' : World} {sl : Option Addr} {pl : List LPl} (h : Pls w sl pl) (hb : Below w.heap.size w w') : Pls w' sl pl := by
 rcases h with h | ⟨c, o, e, h⟩
 ·exact .inl h
 ·exact .inr ⟨c, o, e, h.below hb⟩
theorem own_none5 (w : World) : (w.alloc (.cells #[] 2)).ownsRow w.heap.size 2 1 (.slice (some ⟨w.heap.size, 0, none⟩) 0 0) 0 [] :=
 ⟨rfl, .inr ⟨w.heap.size, 0, #[], rfl, Nat.le_refl _, by show (w.heap.push _)[w.heap.size]? = _; simp, Nat.le_refl _, Nat.zero_le _, rfl, rfl⟩⟩
def chF (rs : List LSt) (top id : Int) : List LPl := (rs.flatMap (domF id top)).map fun c => (id, c)
def plF (rs : List LSt) (top : Int) (ids : List Int) : List LPl := ids.flatMap (chF rs top)
def Kp1 (b C : Nat) (w w' : World) : Prop := w.heap.size ≤ w'.heap.size ∧ ∀ c, c < C → c ≠ b → w'.heap[c]? = w.heap[c]?
theorem Kp1.refl (b C : Nat) (w : World) : Kp1 b C w w := ⟨Nat.le_refl _, fun _ _ _ => rfl⟩
theorem Kp1.trans {b C : Nat} {w w' w'' : World} (h : Kp1 b C w w') (g : Kp1 b C w' w'') : Kp1 b C w w'' := ⟨Nat.le_trans h.1 g.1, fun c hc hb => (g.2 c hc hb).trans (h.2 c hc hb)⟩
theorem Kp1.mono {b C C' : Nat} {w w' : World} (h : Kp1 b C w w') (hc : C' ≤ C) : Kp1 b C' w w' := ⟨h.1, fun c k hb => h.2 c (by omega) hb⟩
theorem Kp1.of {b C : Nat} {w w' : World} (h : Below C w w') : Kp1 b C w w' := ⟨h.size, fun c hc _ => h.block c hc⟩
theorem Kp1.set {b C : Nat} {w w' : World} (h : Kp1 b C w w') (i : Nat) (v : Value) : Kp1 b C w (w'.setCell ⟨b, i, none⟩ v) := ⟨by simpa [World.setCell] using h.1, fun c hc hb => (Below.heap_setCell _ _ _ _ hb).trans (h.2 c hc hb)⟩
theorem Kp1.cell {b C : Nat} {w w' : World} (h : Kp1 b C w w') {c o : Nat} (hc : c < C) (hb : c ≠ b) : w'.cell? ⟨c, o, none⟩ = w.cell? ⟨c, o, none⟩ := by
 simp only [World.cell?, h.2 c hc hb]
abbrev LRow := Value × List LPl
def RowN (b : Nat) (w : World) (r : LRow) : Prop := ∃ sl cap, r.1 = .slice sl r.2.length cap ∧ (r.2 = [] ∨ ∃ c, sl = some ⟨c, 0, none⟩ ∧ PlAt w c 0 r.2 ∧ c ≠ b)
theorem RowN.kp {b C : Nat} {w w' : World} {r : LRow} (h : RowN b w r) (k : Kp1 b C w w') (hC : w.heap.size ≤ C) : RowN b w' r := by
 obtain ⟨sl, cap, e, h⟩ := h
 refine ⟨sl, cap, e, ?_⟩
 rcases h with h | ⟨c, es, h, hb⟩
 ·exact .inl h
 ·refine .inr ⟨c, es, ⟨Nat.lt_of_lt_of_le h.lt k.1, fun i hi => ?_⟩, hb⟩
  have hl := Nat.lt_of_lt_of_le h.lt hC
  exact ⟨(k.cell hl hb).trans (h.cell i hi).1, (k.cell hl hb).trans (h.cell i hi).2⟩
def ChB (w : World) (b : Nat) (vs : Array Value) : Prop := w.heap[b]? = some (.cells vs 26)
theorem ChB.lt {w : World} {b : Nat} {vs : Array Value} (h : ChB w b vs) : b < w.heap.size := (Array.getElem?_eq_some_iff.1 h).1
theorem ChB.below {w w' : World} {b : Nat} {vs : Array Value} (h : ChB w b vs) (hb : Below w.heap.size w w') : ChB w' b vs := (hb.block b h.lt).trans h
theorem ChB.cell {w : World} {b : Nat} {vs : Array Value} (h : ChB w b vs) (i : Nat) : w.cell? ⟨b, i, none⟩ = vs[i]? := by
 unfold ChB at h; simp [World.cell?, h]
theorem info34 : (Tryz.prog.info? 131).map (fun i => (i.zero, i.size, i.bytes)) = some (some (.agg #[.int .i64 0, .int .i64 0]), 2, 16) := by kernel_rfl
theorem own_pls {w : World} {B : Nat} {v : Value} {pl : List LPl} (h : w.ownsRow B 131 2 v pl.length (enCells pl)) : ∃ sl cap, v = .slice sl pl.length cap ∧ (pl = [] ∨ ∃ c, sl = some ⟨c, 0, none⟩ ∧ PlAt w c 0 pl ∧ B ≤ c) := by
 rcases h.2 with ⟨hv, h0⟩ | ⟨g, cap, cur, hv, hb, hg, _⟩
 ·exact ⟨none, 0, by rw [hv, h0], .inl (List.eq_nil_of_length_eq_zero h0)⟩
 ·refine ⟨_, cap, hv, .inr ⟨g, rfl, ⟨(Array.getElem?_eq_some_iff.1 hg).1, fun i hi => ?_⟩, hb⟩⟩
  have e := enCells_at pl i hi
  subst hv
  rw [Nat.zero_add]
  exact ⟨by rw [h.cellAt (i * 2) (by omega), e.1], by rw [h.cellAt (i * 2 + 1) (by omega), e.2]⟩
structure Rws (w : World) (sl : Option Addr) (rows : List LRow) : Prop where
 row : rows = [] ∨ ∃ c, sl = some ⟨c, 0, none⟩ ∧ c < w.heap.size ∧ ∀ i (h : i < rows.length), w.cell? ⟨c, i, none⟩ = some rows[i].1
 each : ∀ r ∈ rows, ∃ sl cap, r.1 = .slice sl r.2.length cap ∧ Pls w sl r.2
theorem Rws.below {w w' : World} {sl : Option Addr} {rows : List LRow} (h : Rws w sl rows) (hb : Below w.heap.size w w') : Rws w' sl rows := by
 refine ⟨?_, fun r hr => ?_⟩
 ·rcases h.row with h | ⟨c, e, hl, h⟩
  ·exact .inl h
  ·exact .inr ⟨c, e, Nat.lt_of_lt_of_le hl hb.size, fun i hi => (hb.cell hl).trans (h i hi)⟩
 ·obtain ⟨sl, cap, e, h⟩ := h.each r hr
  exact ⟨sl, cap, e, h.below hb⟩
theorem dom_le (rs : List LSt) (ps : List LPr) (id top : Int) (h : TabR rs ps) : (rs.flatMap (domF id top)).length ≤ 96 := by
 have h1 : ∀ l : List LSt, (∀ r ∈ l, r.2.2.2.length ≤ 8) → (l.flatMap (domF id top)).length ≤ 8 * l.length := by
  intro l
  induction l with
  | nil => intro _; simp
  | cons r t ih =>
   intro hl
   have a := ih (fun q hq => hl q (by simp [hq]))
   have b := hl r (by simp)
   have c : (domF id top r).length ≤ r.2.2.2.length := by
    unfold domF FF
    split
    ·exact List.length_filter_le _ _
    ·simp
   simp only [List.flatMap_cons, List.length_append, List.length_cons]
   omega
 have := h1 rs (fun r hr => (h.2.1 r hr).2.1.2)
 have := h.1.2
 omega
theorem chF_step (rs : List LSt) (top id : Int) (zs : List Int) (j : Nat) (h : j < zs.length) : ((zs.take (j + 1)).map fun c => ((id, c) : LPl)) = ((zs.take j).map fun c => (id, c)) ++ [(id, zs.getD j 0)] := by
 rw [List.take_succ_eq_append_getElem h, List.map_append]
 simp [h]
def TwoAt (w : World) (b : Nat) (x y : Int) : Prop := w.heap[b]? = some (.cells #[.int .i64 x, .int .i64 y] 131)
theorem TwoAt.lt {w : World} {b : Nat} {x y : Int} (h : TwoAt w b x y) : b < w.heap.size := (Array.getElem?_eq_some_iff.1 h).1
theorem TwoAt.below {w w' : World} {b : Nat} {x y : Int} (h : TwoAt w b x y) (hb : Below w.heap.size w w') : TwoAt w' b x y := (hb.block b h.lt).trans h
theorem TwoAt.cells {w : World} {b : Nat} {x y : Int} (h : TwoAt w b x y) : w.cell? ⟨b, 0, none⟩ = some (.int .i64 x) ∧ w.cell? ⟨b, 1, none⟩ = some (.int .i64 y) := by
 unfold TwoAt at h
 constructor <;> simp [World.cell?, h]
def DomOwn (b : Nat) (w : World) (r : LSt) : Prop := ∃ g, r.2.2.1 = .slice (some ⟨g, 0, none⟩) r.2.2.2.length r.2.2.2.length ∧ RowZ w g r.2.2.2 ∧ b < g ∧ r.2.2.2.length ≤ 1048576
theorem DomOwn.below {b : Nat} {w w' : World} {r : LSt} (h : DomOwn b w r) (hb : Below w.heap.size w w') : DomOwn b w' r := by
 obtain ⟨g, e, hi, hg, hl⟩ := h
 exact ⟨g, e, hi.below hb, hg, hl⟩
structure OwnT (C : Nat) (w : World) (b1 b2 : Nat) (rs : List LSt) (ps : List LPr) : Prop where
 r1 : Row3 w b1 92 rs.length (rs.map stT)
 dom : ∀ r ∈ rs, DomOwn b1 w r
 r2 : Row3 w b2 165 ps.length (ps.map prT)
 lo1 : C ≤ b1
 lo2 : C ≤ b2
theorem OwnT.below {C : Nat} {w w' : World} {b1 b2 : Nat} {rs : List LSt} {ps : List LPr} (h : OwnT C w b1 b2 rs ps) (hb : Below w.heap.size w w') : OwnT C w' b1 b2 rs ps :=
 ⟨h.r1.below hb, fun r hr => (h.dom r hr).below hb, h.r2.below hb, h.lo1, h.lo2⟩
structure StM (C L : Nat) (w : World) (b : Nat) (rs : List LSt) : Prop where
 row : ∃ vs : Array Value, w.heap[b]? = some (.cells vs 92) ∧ vs.size = rs.length * 3 ∧ ∀ i (h : i < rs.length), vs[i * 3 + 2]? = some rs[i].2.2.1
 dom : ∀ r ∈ rs, ∃ g us, r.2.2.1 = .slice (some ⟨g, 0, none⟩) r.2.2.2.length r.2.2.2.length ∧ RowAt w g us ∧ us.size = r.2.2.2.length ∧ C ≤ g ∧ g < L
 lo : C ≤ b
 hi : b < L
theorem StM.below {C L : Nat} {w w' : World} {b : Nat} {rs : List LSt} (h : StM C L w b rs) (hb : Below w.heap.size w w') : StM C L w' b rs := by
 refine ⟨?_, fun r hr => ?_, h.lo, h.hi⟩
 ·obtain ⟨vs, h1, h2⟩ := h.row
  exact ⟨vs, (hb.block b (Array.getElem?_eq_some_iff.1 h1).1).trans h1, h2⟩
 ·obtain ⟨g, us, e, hz, r⟩ := h.dom r hr
  exact ⟨g, us, e, (hb.block g hz.lt).trans hz, r⟩
theorem StM.at {C L : Nat} {w : World} {b : Nat} {rs : List LSt} (h : StM C L w b rs) (i : Nat) (hi : i < rs.length) : w.cell? ⟨b, i * 3 + 2, none⟩ = some rs[i].2.2.1 := by
 obtain ⟨vs, h1, h2, h3⟩ := h.row
 simp [World.cell?, h1, h3 i hi]
def Keep (w w' : World) : Prop := ∀ (b : Nat) (vs : Array Value), w.heap[b]? = some (.cells vs 165) → w'.heap[b]? = some (.cells vs 165)
theorem Keep.refl (w : World) : Keep w w := fun _ _ h => h
theorem Keep.trans {u v w : World} (h : Keep u v) (k : Keep v w) : Keep u w := fun b vs g => k b vs (h b vs g)
theorem Keep.only {w w' : World} {g : Nat} {t : TypeId} {us : Array Value} (ho : Only g w w') (hg : w.heap[g]? = some (.cells us t)) (ht : t ≠ 165) : Keep w w' := fun b vs h => by
 refine (ho.block b (Array.getElem?_eq_some_iff.1 h).1 ?_).trans h
 rintro rfl
 rw [h] at hg
 simp at hg
 exact ht hg.2.symm
theorem Keep.below {w w' : World} (hb : Below w.heap.size w w') : Keep w w' := fun b vs h => (hb.block b (Array.getElem?_eq_some_iff.1 h).1).trans h
def Row2 (w : World) (b : Nat) (n : Nat) (ts : List LPl) : Prop :=
 ∃ vs : Array Value, w.heap[b]? = some (.cells vs 131) ∧ vs.size = n * 2 ∧ ∀ i (h : i < ts.length), vs[i * 2]? = some (.int .i64 ts[i].1) ∧ vs[i * 2 + 1]? = some (.int .i64 ts[i].2)
theorem Row2.lt {w : World} {b : Nat} {n : Nat} {ts : List LPl} (h : Row2 w b n ts) : b < w.heap.size := by
 obtain ⟨vs, h1, _⟩ := h
 exact (Array.getElem?_eq_some_iff.1 h1).1
theorem Row2.below {w w' : World} {b : Nat} {n : Nat} {ts : List LPl} (h : Row2 w b n ts) (hb : Below w.heap.size w w') : Row2 w' b n ts := by
 have hl := h.lt
 obtain ⟨vs, h1, h2, h3⟩ := h
 exact ⟨vs, (hb.block b hl).trans h1, h2, h3⟩
def IdsR (rs : List LSt) (ps : List LPr) (zs : List Int) : Prop := zs.length ≤ 400 ∧ TabR rs ps ∧ RiseTo zs zs.length ∧ ∀ x ∈ zs, x ∈ idsL rs
def InTo (ids zs : List Int) (k : Nat) : Prop := ∀ i, i < k → zs.getD i 0 ∈ ids
theorem InTo.zero (ids zs : List Int) : InTo ids zs 0 := fun i h => absurd h (Nat.not_lt_zero _)
theorem InTo.step {ids zs : List Int} {k : Nat} (h : InTo ids zs k) (g : zs.getD k 0 ∈ ids) : InTo ids zs (k + 1) := fun i hi => by
 by_cases e : i = k
 ·subst e; exact g
 ·exact h i (by omega)
theorem InTo.all {ids zs : List Int} {k : Nat} (h : InTo ids zs k) (hk : zs.length ≤ k) : ∀ x ∈ zs, x ∈ ids := fun x hx => by
 obtain ⟨i, hi, rfl⟩ := List.getElem_of_mem hx
 have := h i (by omega)
 simpa [hi] using this
theorem getD_mem {zs : List Int} {k : Nat} (h : k < zs.length) : zs.getD k 0 ∈ zs := by simp [h]
theorem InRise.mem {lo hi : Int} {zs : List Int} (h : InRise lo hi zs) {x : Int} (hx : x ∈ zs) : lo ≤ x ∧ x ≤ hi := by
 obtain ⟨i, hi', rfl⟩ := List.getElem_of_mem hx
 have := (h i hi').1
 simpa [hi'] using this
theorem inRise_of {lo hi : Int} {ids zs : List Int} (h : InRise lo hi ids) (hr : RiseTo zs zs.length) (hm : ∀ x ∈ zs, x ∈ ids) : InRise lo hi zs :=
 fun i hk => ⟨h.mem (hm _ (getD_mem hk)), fun h0 => hr i hk h0⟩
set_option maxRecDepth 100000 in
set_option maxHeartbeats 2000000 in
theorem sir_any (sl : Option Addr) (cap : Nat) (sl2 : Option Addr) (cap2 : Nat) (sl3 : Option Addr) (cap3 : Nat) (rs : List LSt) (ps : List LPr) (zs : List Int) (w : World) (hn : rs.length ≤ 1048576) (hl : zs.length ≤ 1048576) (hz : Sts w sl rs) (hp : Prs w sl2 ps) (hi : Ints w sl3 zs) :
  Calls Tryz.prog 56 #[TV sl rs.length cap sl2 ps.length cap2, .slice sl3 zs.length cap3] w fun e w' => e = .returned (.bool (B (IdsR rs ps zs))) ∧ Below w.heap.size w w' := by
 have HT := Lib.hid (TabAtE.new w sl rs.length cap sl2 ps.length cap2)
 have B0 := Lib.hid (bA0 w (.cells #[.slice sl rs.length cap, .slice sl2 ps.length cap2] 26))
 have E1 : Hid (∀ W, Below w.heap.size w W → Calls Tryz.prog 110 #[TV sl rs.length cap sl2 ps.length cap2] W fun e w' => e = .returned (.bool (B (TabR rs ps))) ∧ Below W.heap.size W w') := fun W hW => str_anyD sl cap sl2 cap2 rs ps W (hz.below hW) (hp.below hW)
 have E3 : Hid (∀ W, Below w.heap.size w W → Calls Tryz.prog 112 #[.slice sl3 zs.length cap3] W fun e w' => e = .returned (.bool (B (RiseTo zs zs.length))) ∧ Below W.heap.size W w') := fun W hW => ri_any sl3 cap3 zs W hl (hi.below hW)
 have E2 : Hid (∀ x W, Below w.heap.size w W → Calls Tryz.prog 86 #[TV sl rs.length cap sl2 ps.length cap2, .int .i64 x] W fun e w' => e = .returned (.int .i64 (posOf (idsL rs) x)) ∧ Below W.heap.size W w') := fun x W hW => fd_any sl cap sl2 _ cap2 x rs W hn (hz.below hW)
 have HI := Lib.hid hi
 clear hz hp hi
 by_cases h4 : zs.length ≤ 400
 ·have h4' : ¬ (400 : Int) < (zs.length : Int) := by omega
  cases hb : B (TabR rs ps) with
  | false =>
   have NO := Lib.hid (B_no (p := IdsR rs ps zs) (fun g => B_false hb g.2.1))
   rw [NO.out]
   rw [hb] at E1
   clear hb NO E2 E3
   generalize rs.length = n at *
   generalize ps.length = m at *
   generalize zs.length = q at *
   go_enter Tryz.func56, Tryz.ntmps56
   go_wp2_with fail
   refine (E1.out _ B0.out).mono ?_
   rintro e w1 ⟨rfl, b1⟩
   have D1 := Lib.hid (bT B0.out b1)
   clear b1 E1
   go_wp2
   go_ret
   exact ⟨rfl, D1.out⟩
  | true =>
   have TR := Lib.hid (B_true hb)
   rw [hb] at E1
   cases hc : B (RiseTo zs zs.length) with
   | false =>
    have NO := Lib.hid (B_no (p := IdsR rs ps zs) (fun g => B_false hc g.2.2.1))
    rw [NO.out]
    rw [hc] at E3
    clear hb hc NO E2 TR
    generalize rs.length = n at *
    generalize ps.length = m at *
    generalize zs.length = q at *
    go_enter Tryz.func56, Tryz.ntmps56
    go_wp2_with fail
    refine (E1.out _ B0.out).mono ?_
    rintro e w1 ⟨rfl, b1⟩
    have D1 := Lib.hid (bT B0.out b1)
    clear b1 E1
    go_wp2_with fail
    refine (E3.out _ D1.out).mono ?_
    rintro e w2 ⟨rfl, b2⟩
    have D2 := Lib.hid (bT D1.out b2)
    clear b2 E3
    go_wp2
    go_ret
    exact ⟨rfl, D2.out⟩
   | true =>
    have IR := Lib.hid (B_true hc)
    rw [hc] at E3
    have PN := Lib.hid (fun x => posOf_neg (idsL rs) x)
    clear hb hc
    generalize hQ : zs.length = q at *
    have HQ := Lib.hid hQ
    clear hQ
    generalize hNN : rs.length = n at *
    clear hNN
    generalize ps.length = m at *
    go_enter Tryz.func56, Tryz.ntmps56
    go_wp2_with fail
    refine (E1.out _ B0.out).mono ?_
    rintro e w1 ⟨rfl, b1⟩
    have D1 := Lib.hid (bT B0.out b1)
    have T1 := Lib.hid (HT.out.below b1)
    clear b1 E1 HT
    go_wp2_with fail
    refine (E3.out _ D1.out).mono ?_
    rintro e w3 ⟨rfl, b2⟩
    have D3 := Lib.hid (bT D1.out b2)
    have T3 := Lib.hid (T1.out.below b2)
    clear b2 E3 D1 T1
    go_wp2
    go_loopw [5] (fun i wr => ∃ k : Nat, i = .int .i64 k ∧ k ≤ q ∧ Hid (InTo (idsL rs) zs k) ∧ Hid (Below w3.heap.size w3 wr)) (fun i _ => q - (intOf i).toNat)
    case atStart => exact ⟨0, rfl, Nat.zero_le _, InTo.zero _ _, Below.refl _ _⟩
    case round =>
     obtain ⟨k, rfl, hk, IT, H2⟩ := hrel
     have hk0 : (0 : Int) ≤ (k : Int) := by omega
     have DW := Lib.hid (bT D3.out H2.out)
     by_cases g1 : k < q
     ·have g1' : (k : Int) < (q : Int) := by omega
      have hlt : k < zs.length := by rw [HQ.out]; exact g1
      obtain ⟨c, o, rfl, ZI⟩ : ∃ c o, sl3 = some ⟨c, o, none⟩ ∧ IntsAt w c o zs := by
       rcases HI.out with e | h
       ·rw [e] at hlt; simp at hlt
       ·exact h
      have hcl : c < wr.heap.size := Nat.lt_of_lt_of_le ZI.1 DW.out.size
      have hcc := (DW.out.cell (p := ⟨c, o + k, none⟩) ZI.1).trans (ZI.2 k hlt)
      have T5 := Lib.hid (T3.out.below H2.out)
      have pz := PN.out (zs.getD k 0)
      have hcase : (zs.getD k 0 ∈ idsL rs ∧ ¬ posOf (idsL rs) (zs.getD k 0) < 0) ∨ (zs.getD k 0 ∉ idsL rs ∧ posOf (idsL rs) (zs.getD k 0) < 0) := by
       by_cases hm : zs.getD k 0 ∈ idsL rs
       ·exact .inl ⟨hm, fun g => pz.1 g hm⟩
       ·exact .inr ⟨hm, pz.2 hm⟩
      have GM := Lib.hid (getD_mem hlt)
      have SG := Lib.hid (fun g => IT.out.step (ids := idsL rs) (zs := zs) (k := k) g)
      clear pz hlt ZI IT
      generalize zs.getD k 0 = z at *
      have E2' := Lib.hid (E2.out z)
      clear PN
      have KX : Hid (∀ W, Below wr.heap.size wr W → w.heap.size < W.heap.size ∧ W.cell? ⟨w.heap.size, 0, none⟩ = some (.slice sl n cap) ∧ W.cell? ⟨w.heap.size, 1, none⟩ = some (.slice sl2 m cap2) ∧ c < W.heap.size ∧ W.cell? ⟨c, o + k, none⟩ = some (.int .i64 z)) := fun W hW => by
       have r1 := (T5.out.below hW).cells
       exact ⟨(T5.out.below hW).lt, r1.1, r1.2, Nat.lt_of_lt_of_le hcl hW.size, (hW.cell hcl).trans hcc⟩
      generalize posOf (idsL rs) z = pp at *
      rcases hcase with ⟨hm, hp9⟩ | ⟨hm, hp9⟩
      ·have IT2 := Lib.hid (SG.out hm)
       clear SG hm GM
       go_wp2_with fail
       refine wp_region_held_drew (S := fun W => w.heap.size < W.heap.size ∧ W.cell? ⟨w.heap.size, 0, none⟩ = some (.slice sl n cap) ∧ W.cell? ⟨w.heap.size, 1, none⟩ = some (.slice sl2 m cap2) ∧ c < W.heap.size ∧ W.cell? ⟨c, o + k, none⟩ = some (.int .i64 z)) (by kernel_rfl) ?_ (fun hHeld => ?_)
       ·exact KX.out _ (Below.refl _ _).drew
       refine tw (i := 0) rfl ?_
       refine tw (i := 1) rfl ?_
       refine tw (i := 2) rfl ?_
       refine tw (i := 3) rfl ?_
       try simp only [Act.put, setIfInBounds_toArray, set_cons_zero, set_cons_succ, getElem_toArray, getElem_cons_succ, getElem_cons_zero]
       refine tw (i := 4) rfl ?_
       try simp only [Act.put, setIfInBounds_toArray, set_cons_zero, set_cons_succ, getElem_toArray, getElem_cons_succ, getElem_cons_zero]
       refine wpAnyH_ready (rs := [5]) (by kernel_rfl) (by simp) ?_
       refine AllReadyH.cons rfl (fun K hK => ?_) AllReadyH.nil
       go_simp
       go_wp2_with (go_at_call 86; refine (E2'.out _ DW.out.drew).mono ?_; rintro e w5 ⟨rfl, b5⟩)
       have D5 : Hid (Below wr.heap.size wr w5) := bT ((Below.refl wr.heap.size wr).drew) b5
       clear b5
       refine hK.out _ _ ?_ (fun hHeld => ?_)
       ·exact KX.out _ D5.out
       clear hK K
       refine tw (i := 6) rfl ?_
       try simp only [Act.put, setIfInBounds_toArray, set_cons_zero, set_cons_succ, getElem_toArray, getElem_cons_succ, getElem_cons_zero]
       refine wpAnyH_done (by kernel_rfl) ?_ _
       have B5 := Lib.hid (bT H2.out D5.out)
       clear D5 KX
       go_wp2
       go_roundw
       case rel => exact ⟨k + 1, by go_num, by omega, IT2, B5⟩
       case measure => simp [intOf]; omega
      ·have NO := Lib.hid (B_no (p := IdsR rs ps zs) (fun g => hm (g.2.2.2 _ GM.out)))
       clear SG hm GM
       go_wp2_with fail
       refine wp_region_held_drew (S := fun W => w.heap.size < W.heap.size ∧ W.cell? ⟨w.heap.size, 0, none⟩ = some (.slice sl n cap) ∧ W.cell? ⟨w.heap.size, 1, none⟩ = some (.slice sl2 m cap2) ∧ c < W.heap.size ∧ W.cell? ⟨c, o + k, none⟩ = some (.int .i64 z)) (by kernel_rfl) ?_ (fun hHeld => ?_)
       ·exact KX.out _ (Below.refl _ _).drew
       refine tw (i := 0) rfl ?_
       refine tw (i := 1) rfl ?_
       refine tw (i := 2) rfl ?_
       refine tw (i := 3) rfl ?_
       try simp only [Act.put, setIfInBounds_toArray, set_cons_zero, set_cons_succ, getElem_toArray, getElem_cons_succ, getElem_cons_zero]
       refine tw (i := 4) rfl ?_
       try simp only [Act.put, setIfInBounds_toArray, set_cons_zero, set_cons_succ, getElem_toArray, getElem_cons_succ, getElem_cons_zero]
       refine wpAnyH_ready (rs := [5]) (by kernel_rfl) (by simp) ?_
       refine AllReadyH.cons rfl (fun K hK => ?_) AllReadyH.nil
       go_simp
       go_wp2_with (go_at_call 86; refine (E2'.out _ DW.out.drew).mono ?_; rintro e w5 ⟨rfl, b5⟩)
       have D5 : Hid (Below wr.heap.size wr w5) := bT ((Below.refl wr.heap.size wr).drew) b5
       clear b5
       refine hK.out _ _ ?_ (fun hHeld => ?_)
       ·exact KX.out _ D5.out
       clear hK K
       refine tw (i := 6) rfl ?_
       try simp only [Act.put, setIfInBounds_toArray, set_cons_zero, set_cons_succ, getElem_toArray, getElem_cons_succ, getElem_cons_zero]
       refine wpAnyH_done (by kernel_rfl) ?_ _
       have B5 := Lib.hid (bT DW.out D5.out)
       clear D5 KX
       go_wp2
       go_ret
       exact ⟨by rw [NO.out]; rfl, B5.out⟩
     ·have g1' : ¬ (k : Int) < (q : Int) := by omega
      have YES := Lib.hid (B_yes (p := IdsR rs ps zs) ⟨by rw [HQ.out]; exact h4, TR.out, by rw [HQ.out]; exact IR.out, IT.out.all (by rw [HQ.out]; omega)⟩)
      clear IT
      go_wp2
      go_ret
      exact ⟨by rw [YES.out]; rfl, DW.out⟩
 ·have h4' : (400 : Int) < (zs.length : Int) := by omega
  have NO := Lib.hid (B_no (p := IdsR rs ps zs) (fun g => h4 g.1))
  rw [NO.out]
  clear NO E1 E2 E3
  generalize rs.length = n at *
  generalize ps.length = m at *
  generalize zs.length = q at *
  go_enter Tryz.func56, Tryz.ntmps56
  go_wp2
  go_ret
  exact ⟨rfl, B0.out⟩
end Go.Proofs.YtnihhbfgbilimaaGreatDoor
