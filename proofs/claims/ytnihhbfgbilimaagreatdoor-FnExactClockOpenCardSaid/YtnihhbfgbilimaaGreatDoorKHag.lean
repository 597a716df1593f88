import Derived.Test.YtnihhbfgbilimaaGreatDoorZHe
namespace Go.Proofs.YtnihhbfgbilimaaGreatDoor
open Go.RowKit
set_option linter.unusedVariables false
open List (setIfInBounds_toArray set_cons_zero set_cons_succ getElem_toArray getElem_cons_succ getElem_cons_zero)
set_option maxRecDepth 100000 in
set_option maxHeartbeats 2000000 in
theorem growZ_any (n : Nat) (w : World) (hn : n ≤ 1048576) :
  Calls Tryz.prog 200 #[.slice none 0 0, .int .i64 n] w fun e w' => ∃ v, e = .returned v ∧ w'.ownsRow w.heap.size 2 1 v 0 (valsZ []) ∧ Below w.heap.size w w' := by
 obtain ⟨i3, hi3, hd0, hd1, hd2⟩ := info_parts info2'
 by_cases h0 : n = 0
 ·subst h0
  go_enter Tryz.func200, Tryz.ntmps200
  go_wp2
  go_ret
  exact ⟨_, rfl, ⟨rfl, .inl ⟨rfl, rfl⟩⟩, Below.refl _ _⟩
 ·have hp : (0 : Int) < (n : Int) := by omega
  have hneg : ¬ (n : Int) < 0 := by omega
  have hrz := fun ty => Lib.run_append_nil_zeros (P := Tryz.prog) w 34 3 ty 2 i3 _ .i64 .i64 Tryz.underlying34 Tryz.underlying3 hi3 hd0 n (by omega) (by omega) (by omega) (by rw [hd2]; omega)
  have hG := grownCap_ge w n 0 2
  have hM := grownCap_le_maxLen w n 0 2 (by unfold maxLen; omega)
  have hM' := hM
  unfold maxLen at hM'
  generalize grownCap w n 0 2 = G at *
  have O : Hid ((w.drew.alloc (.cells (Builtin.zeroCells (Value.int .i64 0).cells n ++ Builtin.zeroCells (Value.int .i64 0).cells (G - n)) 2)).ownsRow w.heap.size 2 1 (.slice (some ⟨w.heap.size, 0, none⟩) 0 G) 0 (valsZ [])) := by
   refine ⟨rfl, .inr ⟨w.heap.size, G, _, rfl, Nat.le_refl _, new_at w.drew _, Nat.zero_le _, hM, ?_, rfl⟩⟩
   simp only [Array.size_append, size_zeroCells]
   rw [← Nat.add_mul, show (Value.int .i64 0).cells.size = 1 from rfl]
   congr 1
   omega
  have BL : Hid (Below w.heap.size w (w.drew.alloc (.cells (Builtin.zeroCells (Value.int .i64 0).cells n ++ Builtin.zeroCells (Value.int .i64 0).cells (G - n)) 2))) := bA ((Below.refl _ _).drew) _
  generalize Builtin.zeroCells (Value.int .i64 0).cells n ++ Builtin.zeroCells (Value.int .i64 0).cells (G - n) = vs at *
  go_enter Tryz.func200, Tryz.ntmps200
  go_wp2_with (at_builtin; refine Lib.wpList_append_run _ rfl _ _ _ _ rfl _ _ rfl rfl _ _ (hrz _) ?_)
  go_ret
  exact ⟨_, rfl, O.out, BL.out⟩
def flatC (rows : List LCl) : List Int := rows.flatMap fun r => r.2
theorem flatC_step (rows : List LCl) (k : Nat) (h : k < rows.length) : flatC (rows.take (k + 1)) = flatC (rows.take k) ++ rows[k].2 := by
 unfold flatC
 rw [List.take_succ_eq_append_getElem h, List.flatMap_append]
 simp
theorem flatC_le (rows : List LCl) (k : Nat) : (flatC (rows.take k)).length ≤ (flatC rows).length := by
 have := congrArg (fun l => (flatC l).length) (List.take_append_drop k rows)
 simp only [flatC, List.flatMap_append, List.length_append] at this
 unfold flatC
 omega
set_option maxRecDepth 100000 in
set_option maxHeartbeats 4000000 in
theorem catZ_any (sl : Option Addr) (cap : Nat) (rows : List LCl) (w : World) (hn : rows.length ≤ 1048576) (hT : (flatC rows).length ≤ 1048576) (hz : Cls w sl rows) :
  Calls Tryz.prog 176 #[.slice sl rows.length cap] w fun e w' => ∃ v, e = .returned v ∧ w'.ownsRow w.heap.size 2 1 v (flatC rows).length (valsZ (flatC rows)) ∧ Below w.heap.size w w' := by
 obtain ⟨i3, hi3, hd0, hd1, hd2⟩ := info_parts info2'
 have HZ := Lib.hid hz
 have EG := Lib.hid (fun (W : World) (q : Nat) (h : q ≤ 1048576) => growZ_any q W h)
 clear hz
 generalize hF : flatC rows = fl at *
 have HF := Lib.hid hF
 have FL := Lib.hid (fun k => flatC_le rows k)
 rw [hF] at FL
 clear hF
 generalize hN : rows.length = n at *
 have HN := Lib.hid hN
 clear hN
 go_enter Tryz.func176, Tryz.ntmps176
 go_wp2
 go_loopw [3, 11] (fun s i wr => ∃ (k q : Nat), i = .int .i64 k ∧ k ≤ n ∧ s = .int .i64 q ∧ q ≤ 1048576 ∧ Hid (q = (flatC (rows.take k)).length) ∧ wr = w) (fun _ i _ => n - (intOf i).toNat)
 case atStart => exact ⟨0, 0, rfl, Nat.zero_le _, rfl, Nat.zero_le _, rfl, rfl⟩
 case round =>
  obtain ⟨k, q, rfl, hk, rfl, hq, HQ, rfl⟩ := hrel
  have hk0 : (0 : Int) ≤ (k : Int) := by omega
  by_cases g1 : k < n
  ·have g1' : (k : Int) < (n : Int) := by omega
   have hlt : k < rows.length := by rw [HN.out]; exact g1
   obtain ⟨c, o, rfl, cl, hcs⟩ := HZ.out.at hlt
   have hc := hcs k hlt
   obtain ⟨s1, k1, v1, -⟩ := HZ.out.each rows[k] (List.getElem_mem hlt)
   rw [v1] at hc
   have QN := Lib.hid (show q + rows[k].2.length = (flatC (rows.take (k + 1))).length by rw [flatC_step rows k hlt, List.length_append, HQ.out])
   have hq2 : q + rows[k].2.length ≤ 1048576 := by rw [QN.out]; have := FL.out (k + 1); omega
   clear hcs v1
   generalize rows[k].2.length = r at *
   clear hlt
   go_wp2
   go_roundw
   case rel => exact ⟨k + 1, q + r, by go_num, by omega, by go_num, hq2, QN, trivial⟩
   case measure => simp [intOf]; omega
  ·have g1' : ¬ (k : Int) < (n : Int) := by omega
   have E := Lib.hid (EG.out wr q hq)
   clear EG HQ
   go_wp2_with fail
   refine E.out.mono ?_
   rintro e w1 ⟨v1, rfl, o1, b1⟩
   obtain ⟨C0, hC0⟩ : ∃ C0, C0 = wr.heap.size := ⟨_, rfl⟩
   have RD : Hid (∀ W, Below C0 w1 W → Cls W sl rows) := fun W hW => HZ.out.below (b1.trans (by rw [← hC0]; exact hW))
   have FB : Hid (∀ W, Below C0 w1 W → Below wr.heap.size wr W) := fun W hW => b1.trans (by rw [← hC0]; exact hW)
   have hs1 : C0 ≤ w1.heap.size := by rw [hC0]; exact b1.size
   have O1 : Hid (w1.ownsRow C0 2 1 v1 0 (valsZ [])) := by rw [hC0]; exact o1
   have OF : Hid (∀ (W : World) v xs, W.ownsRow C0 2 1 v fl.length xs → W.ownsRow wr.heap.size 2 1 v fl.length xs) := fun W v xs h => by rw [← hC0]; exact h
   clear o1 b1 E HZ hC0
   go_wp2
   go_loopw [6, 27] (fun v i wq => ∃ (k : Nat) (cu : List Int), i = .int .i64 k ∧ k ≤ n ∧ Hid (cu = flatC (rows.take k)) ∧ Hid (wq.ownsRow C0 2 1 v cu.length (valsZ cu)) ∧ Hid (Below C0 w1 wq)) (fun _ i _ => n - (intOf i).toNat)
   case atStart => exact ⟨0, [], rfl, Nat.zero_le _, rfl, O1, Below.refl _ _⟩
   case round =>
    obtain ⟨k, cu, rfl, hk, HC, OR, HB⟩ := hrel
    have hk0 : (0 : Int) ≤ (k : Int) := by omega
    by_cases g1 : k < n
    ·have g1' : (k : Int) < (n : Int) := by omega
     have hlt : k < rows.length := by rw [HN.out]; exact g1
     have RW := RD.out _ HB.out
     obtain ⟨c, o, rfl, cl, hcs⟩ := RW.at hlt
     have hc := hcs k hlt
     obtain ⟨s1, k1, e1, p1, -⟩ := RW.each rows[k] (List.getElem_mem hlt)
     rw [e1] at hc
     have CS := Lib.hid (show cu ++ rows[k].2 = flatC (rows.take (k + 1)) by rw [HC.out]; exact (flatC_step rows k hlt).symm)
     have CL := Lib.hid (show (cu ++ rows[k].2).length ≤ 1048576 by rw [CS.out]; have := FL.out (k + 1); omega)
     obtain ⟨vsl, vcap, rfl⟩ := own_v OR.out
     have hlc : cu.length ≤ vcap := by
      rcases OR.out.2 with ⟨_, h0⟩ | ⟨g, cp, cur, hv, _, _, h5, _⟩
      ·rw [h0]; exact Nat.zero_le _
      ·cases hv; exact h5
     have hsw := HB.out.size
     clear hcs RW e1
     generalize rows[k].2 = r at *
     clear hlt
     by_cases hr : r = []
     ·subst hr
      have CSE : Hid (cu = flatC (rows.take (k + 1))) := by have := CS.out; rwa [List.append_nil] at this
      have ha := app_none40 wr 28 vsl cu.length vcap hlc s1 k1
      go_wp2_with (at_builtin; refine Lib.wpList_append_run _ rfl _ _ _ _ rfl _ _ rfl rfl _ _ ha ?_)
      go_roundw
      case rel => exact ⟨k + 1, cu, by go_num, by omega, CSE, OR, HB⟩
      case measure => simp [intOf]; omega
     ·obtain ⟨rc, ro, rfl, PA⟩ : ∃ c o, s1 = some ⟨c, o, none⟩ ∧ IntsAt wr c o r := by
       rcases p1 with h | h
       ·exact absurd h hr
       ·exact h
      have hrl : 0 < r.length := by
       cases r with
       | nil => exact absurd rfl hr
       | cons a t => simp
      have CL2 : cu.length + r.length ≤ 1048576 := by have := CL.out; rwa [List.length_append] at this
      have OL := Lib.hid (show ∀ j, (Value.slice vsl cu.length vcap).ownBlock = some j → C0 ≤ j from fun j hj => (OR.out.lt j hj).1)
      go_wp2_with (at_builtin; refine wpList_append_lies _ rfl (.tmp 31) (.tmp 32) 34 rfl C0 2 i3 (.int .i64 0) 1 8 Tryz.underlying34 hi3 hd0 hd1 hd2 rfl (by decide) _ _ _ rfl OR.out ⟨rc, ro, none⟩ r.length k1 (valsZ r) rfl (valsZ_len1 r) (int_cells PA) (valsZ_one r) hrl (by unfold maxLen; omega) (by omega) (by omega) wr.heap.size rfl ?_)
      intro g9 cap9 w9 own9 grow9 hg9 hlt9
      have O9 : Hid (w9.ownsRow C0 2 1 (.slice (some ⟨g9, 0, none⟩) (cu.length + r.length) cap9) (cu ++ r).length (valsZ (cu ++ r))) := by
       rw [valsZ_add, List.length_append]; exact own9
      have B9 := Lib.hid (HB.out.grown grow9 (by omega) (fun j hj => OL.out j hj))
      clear own9 grow9 hg9 hlt9 OR HB OL p1 PA
      go_wp2
      go_roundw
      case rel => exact ⟨k + 1, cu ++ r, by go_num, by omega, CS, O9, B9⟩
      case measure => simp [intOf]; omega
    ·have g1' : ¬ (k : Int) < (n : Int) := by omega
     have P := Lib.hid (show cu = fl by rw [HC.out, List.take_of_length_le (by rw [HN.out]; omega), HF.out])
     have O9 := OR.out
     rw [P.out] at O9
     have OO := Lib.hid (OF.out _ _ _ O9)
     have BB := Lib.hid (FB.out _ HB.out)
     clear O9 OR HC P
     go_wp2
     go_ret
     exact ⟨_, rfl, OO.out, BB.out⟩
theorem nan1_any (x : Int) (w : World) : Calls Tryz.prog 230 #[.int .i64 x] w fun e w' => e = .returned (.bool false) ∧ w' = w := by
 go_enter Tryz.func230, Tryz.ntmps230
 go_wp2
 go_ret
 exact ⟨by simp, rfl⟩
theorem nan2_any (x : Int) (w : World) : Calls Tryz.prog 214 #[.int .i64 x] w fun e w' => e = .returned (.bool false) ∧ w' = w := by
 go_enter Tryz.func214, Tryz.ntmps214
 go_wp2
 go_ret
 exact ⟨by simp, rfl⟩
set_option maxRecDepth 100000 in
set_option maxHeartbeats 1000000 in
theorem less_any (x y : Int) (w : World) : Calls Tryz.prog 208 #[.int .i64 x, .int .i64 y] w fun e w' => e = .returned (.bool (decide (x < y))) ∧ w' = w := by
 have E := Lib.hid (fun W => nan1_any x W)
 go_enter Tryz.func208, Tryz.ntmps208
 go_wp2_with (go_at_call 230; refine (E.out _).mono ?_; rintro e w' ⟨rfl, rfl⟩)
 go_ret
 exact ⟨rfl, rfl⟩
def CutAt (zs : List Int) (x : Int) (lo hi : Nat) : Prop := (∀ t, t < lo → zs.getD t 0 < x) ∧ (∀ t, hi ≤ t → t < zs.length → x ≤ zs.getD t 0)
theorem cut_in {zs : List Int} {x : Int} {h : Nat} (hc : CutAt zs x h h) (hr : Rises zs) (hl : h < zs.length) (hx : zs.getD h 0 = x) : x ∈ zs ∧ zs.idxOf x = h := by
 refine ⟨?_, idxOf_hit zs x h hl hx (fun i hi => by have := hc.1 i hi; omega)⟩
 rw [← hx, List.getD_eq_getElem?_getD, List.getElem?_eq_getElem hl]
 exact List.getElem_mem hl
theorem cut_out {zs : List Int} {x : Int} {h : Nat} (hc : CutAt zs x h h) (hr : Rises zs) (hx : h < zs.length → zs.getD h 0 ≠ x) : x ∉ zs := fun hm => by
 obtain ⟨i, hi, e⟩ := List.getElem_of_mem hm
 have ei : zs.getD i 0 = x := by rw [List.getD_eq_getElem?_getD, List.getElem?_eq_getElem hi]; exact e
 rcases Nat.lt_trichotomy i h with g | g | g
 ·have := hc.1 i g; omega
 ·subst g; exact hx hi ei
 ·have h1 := hr h i g hi
  have h2 := hc.2 h (Nat.le_refl _) (by omega)
  omega
set_option maxRecDepth 100000 in
set_option maxHeartbeats 4000000 in
theorem bs_any (sl : Option Addr) (cap : Nat) (zs : List Int) (x : Int) (w : World) (hn : zs.length ≤ 1048576) (hr : Rises zs) (hz : Ints w sl zs) :
  Calls Tryz.prog 182 #[.slice sl zs.length cap, .int .i64 x] w fun e w' => ∃ p : Nat, e = .returned (.tuple #[.int .i64 p, .bool (B (x ∈ zs))]) ∧ (x ∈ zs → p = zs.idxOf x) ∧ Below w.heap.size w w' := by
 have HZ := Lib.hid hz
 have HR := Lib.hid hr
 have EL := Lib.hid (fun y W => less_any y x W)
 have EN := Lib.hid (fun y W => nan2_any y W)
 clear hz hr
 generalize hN : zs.length = n at *
 have HN := Lib.hid hN
 clear hN
 go_enter Tryz.func182, Tryz.ntmps182
 go_wp2
 go_loopw [7, 8] (fun i j wr => ∃ (lo hi : Nat), i = .int .i64 lo ∧ j = .int .i64 hi ∧ lo ≤ hi ∧ hi ≤ n ∧ Hid (CutAt zs x lo hi) ∧ Hid (Below w.heap.size w wr)) (fun i j _ => (intOf j).toNat - (intOf i).toNat)
 case atStart => exact ⟨0, n, rfl, rfl, Nat.zero_le _, Nat.le_refl _, ⟨fun t ht => absurd ht (Nat.not_lt_zero _), fun t h1 h2 => by rw [HN.out] at h2; omega⟩, Below.refl _ _⟩
 case round =>
  obtain ⟨lo, hi, rfl, rfl, hlh, hin, CA, HB⟩ := hrel
  have hlo0 : (0 : Int) ≤ (lo : Int) := by omega
  have hhi0 : (0 : Int) ≤ (hi : Int) := by omega
  by_cases g1 : lo < hi
  ·have g1' : (lo : Int) < (hi : Int) := by omega
   have hlt : (lo + hi) / 2 < zs.length := by rw [HN.out]; omega
   obtain ⟨c, o, rfl, ZI⟩ : ∃ c o, sl = some ⟨c, o, none⟩ ∧ IntsAt w c o zs := by
    rcases HZ.out with e | h
    ·rw [e] at hlt; simp at hlt
    ·exact h
   have hc := (HB.out.cell (p := ⟨c, o + (lo + hi) / 2, none⟩) ZI.1).trans (ZI.2 ((lo + hi) / 2) hlt)
   have C1 : Hid (zs.getD ((lo + hi) / 2) 0 < x → CutAt zs x ((lo + hi) / 2 + 1) hi) := fun h => ⟨fun t ht => by
    by_cases e : t = (lo + hi) / 2
    ·rw [e]; exact h
    ·have := HR.out t ((lo + hi) / 2) (by omega) hlt; omega, CA.out.2⟩
   have C2 : Hid (¬ zs.getD ((lo + hi) / 2) 0 < x → CutAt zs x lo ((lo + hi) / 2)) := fun h => ⟨CA.out.1, fun t h1 h2 => by
    by_cases e : t = (lo + hi) / 2
    ·rw [e]; omega
    ·have := HR.out ((lo + hi) / 2) t (by omega) h2; omega⟩
   clear ZI hlt CA
   generalize zs.getD ((lo + hi) / 2) 0 = y at *
   have E := Lib.hid (EL.out y)
   by_cases hyx : y < x
   ·have CC := Lib.hid (C1.out hyx)
    clear C1 C2
    go_wp2_with (first | (go_at_call 208; refine (E.out _).mono ?_; rintro e w' ⟨rfl, rfl⟩))
    go_roundw
    case rel => exact ⟨(lo + hi) / 2 + 1, hi, by rw [show ((lo : Int) + (hi : Int)) / 2 + 1 = (((lo + hi) / 2 + 1 : Nat) : Int) by omega], rfl, by omega, hin, CC, HB⟩
    case measure => simp [intOf]; omega
   ·have CC := Lib.hid (C2.out hyx)
    clear C1 C2
    go_wp2_with (first | (go_at_call 208; refine (E.out _).mono ?_; rintro e w' ⟨rfl, rfl⟩))
    go_roundw
    case rel => exact ⟨lo, (lo + hi) / 2, rfl, by rw [show ((lo : Int) + (hi : Int)) / 2 = (((lo + hi) / 2 : Nat) : Int) by omega], by omega, by omega, CC, HB⟩
    case measure => simp [intOf]; omega
  ·have g1' : ¬ (lo : Int) < (hi : Int) := by omega
   obtain rfl : hi = lo := by omega
   by_cases g2 : hi < n
   ·have g2' : (hi : Int) < (n : Int) := by omega
    have hlt : hi < zs.length := by rw [HN.out]; exact g2
    obtain ⟨c, o, rfl, ZI⟩ : ∃ c o, sl = some ⟨c, o, none⟩ ∧ IntsAt w c o zs := by
     rcases HZ.out with e | h
     ·rw [e] at hlt; simp at hlt
     ·exact h
    have hc := (HB.out.cell (p := ⟨c, o + hi, none⟩) ZI.1).trans (ZI.2 hi hlt)
    have C1 : Hid (zs.getD hi 0 = x → B (x ∈ zs) = true ∧ (x ∈ zs → hi = zs.idxOf x)) := fun h => ⟨B_yes (cut_in CA.out HR.out hlt h).1, fun _ => (cut_in CA.out HR.out hlt h).2.symm⟩
    have C2 : Hid (¬ zs.getD hi 0 = x → B (x ∈ zs) = false ∧ (x ∈ zs → hi = zs.idxOf x)) := fun h => ⟨B_no (cut_out CA.out HR.out (fun _ => h)), fun hm => absurd hm (cut_out CA.out HR.out (fun _ => h))⟩
    clear ZI hlt CA
    generalize zs.getD hi 0 = y at *
    have E := Lib.hid (EN.out y)
    by_cases hyx : y = x
    ·have CC := Lib.hid (C1.out hyx)
     clear C1 C2
     go_wp2_with (first | (go_at_call 214; refine (E.out _).mono ?_; rintro e w' ⟨rfl, rfl⟩))
     go_ret2
     exact ⟨hi, (by rw [CC.out.1]; first | rfl | simp [*]), CC.out.2, HB.out⟩
    ·have CC := Lib.hid (C2.out hyx)
     clear C1 C2
     go_wp2_with (first | (go_at_call 214; refine (E.out _).mono ?_; rintro e w' ⟨rfl, rfl⟩))
     go_ret2
     exact ⟨hi, (by rw [CC.out.1]; first | rfl | simp [*]), CC.out.2, HB.out⟩
   ·have g2' : ¬ (hi : Int) < (n : Int) := by omega
    have hx := cut_out CA.out HR.out (fun h => absurd h (by rw [HN.out]; exact g2))
    have CC := Lib.hid (show B (x ∈ zs) = false ∧ (x ∈ zs → hi = zs.idxOf x) from ⟨B_no hx, fun hm => absurd hm hx⟩)
    clear hx CA
    go_wp2
    go_ret2
    exact ⟨hi, (by rw [CC.out.1]; first | rfl | simp [*]), CC.out.2, HB.out⟩
def besO (ps : List LPr) (x y : LNb) : List (List Int) := if mayL ps x.1.1 x.1.2 y.1.1 y.1.2 = true then [] else [[-x.2, -y.2]]
def besR (ps : List LPr) (C : List LNb) (x : LNb) : List (List Int) := C.flatMap (besO ps x)
theorem besF_R (ps : List LPr) (A C : List LNb) : besF ps A C = A.flatMap (besR ps C) := rfl
theorem nbsF_fst (ds : List (List LPl)) : ∀ last, (nbsF last ds).map (fun b => b.map fun e => e.1) = ds := by
 induction ds with
 | nil => intro _; rfl
 | cons d r ih => intro last; simp only [nbsF, List.map_cons, nbF_fst, ih]
theorem row_of {rows : List LRow} {vs : List LCl} (hb : bareC vs = numR rows) (p : Nat) (hp : p < rows.length) : ∃ A, (nbsF 0 (rows.map fun r => r.2)).getD p [] = A ∧ rows[p].2 = A.map (fun e => e.1) ∧ ∃ hv : p < vs.length, vs[p].2 = A.map fun e => e.2 := by
 have hl : (nbsF 0 (rows.map fun r => r.2)).length = rows.length := by rw [nbsF_len, List.length_map]
 have hp2 : p < (nbsF 0 (rows.map fun r => r.2)).length := by rw [hl]; exact hp
 have hvl : vs.length = rows.length := by have := congrArg List.length hb; simpa [bareC, numR, hl] using this
 refine ⟨(nbsF 0 (rows.map fun r => r.2))[p], by simp [List.getD, hp2], ?_, by omega, ?_⟩
 ·have e := nbsF_fst (rows.map fun r => r.2) 0
  have : ((nbsF 0 (rows.map fun r => r.2)).map (fun b => b.map fun e => e.1))[p]? = (rows.map fun r => r.2)[p]? := by rw [e]
  simpa [hp2, hp] using this.symm
 ·have : (bareC vs)[p]? = (numR rows)[p]? := by rw [hb]
  have hv : p < vs.length := by omega
  simpa [bareC, numR, hp2, hv] using this
def PlN (W : World) (s : Option Addr) (A : List LNb) : Prop := A = [] ∨ ∃ c o, s = some ⟨c, o, none⟩ ∧ c < W.heap.size ∧ ∀ i (h : i < A.length), W.cell? ⟨c, o + i * 2, none⟩ = some (.int .i64 A[i].1.1) ∧ W.cell? ⟨c, o + i * 2 + 1, none⟩ = some (.int .i64 A[i].1.2)
def VaN (W : World) (t : Option Addr) (A : List LNb) : Prop := A = [] ∨ ∃ d u, t = some ⟨d, u, none⟩ ∧ d < W.heap.size ∧ ∀ i (h : i < A.length), W.cell? ⟨d, u + i, none⟩ = some (.int .i64 A[i].2)
def RowAB (W : World) (cc : Nat) (slv : Option Addr) (p : Nat) (A : List LNb) : Prop :=
 (∃ s k, W.cell? ⟨cc, p, none⟩ = some (.slice s A.length k) ∧ cc < W.heap.size ∧ PlN W s A) ∧
 (∃ c o t k, slv = some ⟨c, o, none⟩ ∧ c < W.heap.size ∧ W.cell? ⟨c, o + p, none⟩ = some (.slice t A.length k) ∧ VaN W t A)
theorem rowAB_of {W : World} {cc : Nat} {slv : Option Addr} {rows : List LRow} {vs : List LCl} (hz : Rws W (some ⟨cc, 0, none⟩) rows) (hv : Cls W slv vs) (p : Nat) (A : List LNb) (hp : p < rows.length) (h1 : rows[p].2 = A.map (fun e => e.1)) (hpv : p < vs.length) (h2 : vs[p].2 = A.map (fun e => e.2)) : RowAB W cc slv p A := by
 constructor
 ·rcases hz.row with e | ⟨c, e, cl, hc⟩
  ·rw [e] at hp; simp at hp
  ·cases e
   obtain ⟨s, k, es, ps⟩ := hz.each rows[p] (List.getElem_mem hp)
   refine ⟨s, k, ?_, cl, ?_⟩
   ·rw [hc p hp, es, h1, List.length_map]
   ·rcases ps with e | ⟨c, o, e, P⟩
    ·exact Or.inl (by rw [h1] at e; simpa using e)
    ·refine Or.inr ⟨c, o, e, P.lt, fun i hi => ?_⟩
     have hi2 : i < rows[p].2.length := by rw [h1, List.length_map]; exact hi
     have := P.cell i hi2
     simpa [h1] using this
 ·obtain ⟨c, o, e, cl, hc⟩ := hv.at hpv
  obtain ⟨t, k, et, it, -⟩ := hv.each vs[p] (List.getElem_mem hpv)
  refine ⟨c, o, t, k, e, cl, ?_, ?_⟩
  ·rw [hc p hpv, et, h2, List.length_map]
  ·rcases it with e | ⟨d, u, e, P⟩
   ·exact Or.inl (by rw [h2] at e; simpa using e)
   ·refine Or.inr ⟨d, u, e, P.1, fun i hi => ?_⟩
    have hi2 : i < vs[p].2.length := by rw [h2, List.length_map]; exact hi
    rw [P.2 i hi2, h2]
    simp [hi]
set_option maxRecDepth 100000 in
set_option maxHeartbeats 8000000 in
theorem nb_any (sl : Option Addr) (n cap : Nat) (sl2 : Option Addr) (cap2 : Nat) (sl3 : Option Addr) (cap3 cc capc : Nat) (slv : Option Addr) (capv : Nat) (rs : List LSt) (ps : List LPr) (ids : List Int) (rows : List LRow) (vs : List LCl) (w : World) (TR0 : TabR rs ps) (hp : Prs w sl2 ps) (hw : ∀ p ∈ ps, WfP p) (hi : Ints w sl3 ids) (hl : ids.length ≤ 400) (hr : Rises ids) (hrl : rows.length = ids.length) (hz : Rws w (some ⟨cc, 0, none⟩) rows) (hv : Cls w slv vs) (hbv : bareC vs = numR rows) (hsm : ∀ r ∈ rows, ∀ x ∈ r.2, Small x) (hvb : ∀ r ∈ vs, VarB r.2) (h96 : ∀ r ∈ rows, r.2.length ≤ 96) :
  Calls Tryz.prog 175 #[TV sl n cap sl2 ps.length cap2, .slice sl3 ids.length cap3, .slice (some ⟨cc, 0, none⟩) rows.length capc, .slice slv vs.length capv] w fun e w' => ∃ v cs, e = .returned v ∧ OwC w' w.heap.size v cs ∧ bareC cs = ps.flatMap (besI ps ids (nbsF 0 (rows.map fun r => r.2))) ∧ cs.length ≤ 400000 ∧ Below w.heap.size w w' := by
 obtain ⟨i4, hi4, hd0, hd1, hd2⟩ := info_parts info40
 have hm40 : ps.length ≤ 40 := TR0.1.2.2
 have HT := Lib.hid (TabAtD.new w sl n cap sl2 ps.length cap2)
 have EB := Lib.hid (fun W (hW : Below w.heap.size w W) => bi_any sl n cap sl2 cap2 ps W (by omega) (hp.below hW) hw)
 have ES := Lib.hid (fun x W (hW : Below w.heap.size w W) => bs_any sl3 cap3 ids x W (by omega) hr (hi.below hW))
 have EF : Hid (∀ (W : World) (g kb : Nat) (x y : LPl), Pls W (some ⟨g, 0, none⟩) [x] → FitsAt W kb ps → Small x → Small y → Calls Tryz.prog 213 #[.slice (some ⟨g, 0, none⟩) 1 1, .agg #[.int .i64 y.1, .int .i64 y.2], .pointer (some ⟨kb, 0, none⟩)] W fun e w' => e = .returned (.bool (mayL ps x.1 x.2 y.1 y.2)) ∧ Below W.heap.size W w') := fun W g kb x y h1 h2 h3 h4 => by
  have := fit_any (some ⟨g, 0, none⟩) 1 [x] y.1 y.2 kb ps W (by simp) h1 (fun p hp => by rw [List.mem_singleton.1 hp]; exact h3) h4 hw h2
  rw [fit_may rs ps [x] (y.1, y.2) TR0] at this
  simpa using this
 have HP := Lib.hid hp
 have RO : Hid (∀ p, p < ids.length → ∃ A, (nbsF 0 (rows.map fun r => r.2)).getD p [] = A ∧ RowAB w cc slv p A ∧ p < vs.length ∧ p < rows.length ∧ A.length ≤ 96 ∧ (∀ e ∈ A, Small e.1 ∧ 0 ≤ e.2 ∧ e.2 ≤ 1048576)) := fun p h => by
  have h2 : p < rows.length := by rw [hrl]; exact h
  obtain ⟨A, eA, e1, hvp, e2⟩ := row_of hbv p h2
  refine ⟨A, eA, rowAB_of hz hv p A h2 e1 hvp e2, hvp, h2, ?_, fun e he => ⟨?_, ?_⟩⟩
  ·have := h96 rows[p] (List.getElem_mem h2); rw [e1, List.length_map] at this; exact this
  ·refine hsm rows[p] (List.getElem_mem h2) e.1 ?_
   rw [e1]; exact List.mem_map.2 ⟨e, he, rfl⟩
  ·refine hvb vs[p] (List.getElem_mem hvp) e.2 ?_
   rw [e2]; exact List.mem_map.2 ⟨e, he, rfl⟩
 clear hp hi hr hz hv hbv hsm hvb h96 hw
 generalize hBS : nbsF 0 (rows.map fun r => r.2) = bs at *
 clear hBS
 have VL := Lib.hid (show ∀ p, p < ids.length → p < vs.length from fun p h => by obtain ⟨_, _, _, h, _⟩ := RO.out p h; exact h)
 generalize hNv : vs.length = nv at *
 generalize hNi : ids.length = ni at *
 have HNI := Lib.hid hNi
 clear hNi
 rw [hrl]
 clear hrl hNv
 generalize hM : ps.length = m at *
 have HM := Lib.hid hM
 clear hM TR0
 have B0 := Lib.hid (bA0 w (.cells #[.slice sl n cap, .slice sl2 m cap2] 26))
 go_enter Tryz.func175, Tryz.ntmps175
 go_wp2_with fail
 refine (EB.out _ B0.out).mono ?_
 rintro e w1 ⟨kb, rfl, f1, b1⟩
 have FK := Lib.hid f1
 have XT := HT.out.below b1
 obtain ⟨t0, t1⟩ := XT.cells
 have tl := XT.lt
 have D1 := Lib.hid (bT B0.out b1)
 have hs1 := D1.out.size
 clear f1 b1 EB XT
 go_wp2
 clear t0 t1 tl HT B0
 go_loopw [10, 26] (fun v i wr => ∃ (k : Nat) (cs : List LCl), i = .int .i64 k ∧ k ≤ m ∧ Hid (OwC wr w1.heap.size v cs) ∧ cs.length ≤ k * 10000 ∧ Hid (bareC cs = (ps.take k).flatMap (besI ps ids bs)) ∧ Hid (Below w1.heap.size w1 wr)) (fun _ i _ => m - (intOf i).toNat)
 case atStart => exact ⟨0, [], rfl, Nat.zero_le _, OwC.nil _ _, Nat.zero_le _, rfl, Below.refl _ _⟩
 case round =>
  obtain ⟨k, cs, rfl, hk, OC, hcl, BC, HB⟩ := hrel
  have hk0 : (0 : Int) ≤ (k : Int) := by omega
  have DW := Lib.hid (bT D1.out HB.out)
  by_cases g1 : k < m
  ·have g1' : (k : Int) < (m : Int) := by omega
   have hlt : k < ps.length := by rw [HM.out]; exact g1
   obtain ⟨c, o, rfl, ZI⟩ : ∃ c o, sl2 = some ⟨c, o, none⟩ ∧ PrAt w c o ps := by
    rcases HP.out with e | h
    ·rw [e] at hlt; simp at hlt
    ·exact h
   have hc0 := (DW.out.cell ZI.lt).trans (ZI.cell k hlt).1
   have hc1 := (DW.out.cell ZI.lt).trans (ZI.cell k hlt).2.1
   have hc2 := (DW.out.cell ZI.lt).trans (ZI.cell k hlt).2.2
   have IS := Lib.hid (show (ps.take (k + 1)).flatMap (besI ps ids bs) = bareC cs ++ besI ps ids bs ps[k] by rw [fm_step _ ps k hlt, BC.out])
   obtain ⟨a, b, kd, hpe⟩ : ∃ a b kd, ps[k] = (a, b, kd) := ⟨_, _, _, rfl⟩
   rw [hpe] at hc0 hc1 hc2 IS
   dsimp only at hc0 hc1 hc2
   clear hpe hlt ZI BC
   have HX := Lib.hid (show (wr.alloc (.cells #[.int .i64 a, .int .i64 b, .int .i64 kd] 165)).heap[wr.heap.size]? = some (.cells #[.int .i64 a, .int .i64 b, .int .i64 kd] 165) from new_at _ _)
   have B2 := Lib.hid (bA DW.out (.cells #[.int .i64 a, .int .i64 b, .int .i64 kd] 165))
   have BW := Lib.hid (bA0 wr (.cells #[.int .i64 a, .int .i64 b, .int .i64 kd] 165))
   have E1 := Lib.hid (ES.out a _ B2.out)
   have BI : Hid (besI ps ids bs (a, b, kd) = if a ∈ ids ∧ b ∈ ids then besF ps (bs.getD (ids.idxOf a) []) (bs.getD (ids.idxOf b) []) else []) := rfl
   obtain ⟨vsl, vcap, rfl⟩ := OC.out.v
   go_wp2_with fail
   generalize wr.alloc (.cells #[.int .i64 a, .int .i64 b, .int .i64 kd] 165) = w2 at *
   refine E1.out.mono ?_
   rintro e w3 ⟨pa, rfl, hpa, b3⟩
   have PA := Lib.hid hpa
   have H3 := Lib.hid ((b3.block wr.heap.size (Array.getElem?_eq_some_iff.1 HX.out).1).trans HX.out)
   have xl : wr.heap.size < w3.heap.size := (Array.getElem?_eq_some_iff.1 H3.out).1
   have x1 : w3.cell? ⟨wr.heap.size, 1, none⟩ = some (.int .i64 b) := by simp [World.cell?, H3.out]
   have B3 := Lib.hid (bT B2.out b3)
   have BW3 := Lib.hid (bT BW.out b3)
   have E2 := Lib.hid (ES.out b _ B3.out)
   clear hpa b3 E1 HX H3 B2 BW
   go_wp2_with fail
   refine E2.out.mono ?_
   rintro e w4 ⟨pb, rfl, hpb, b4⟩
   have PB := Lib.hid hpb
   have B4 := Lib.hid (bT B3.out b4)
   have BW4 := Lib.hid (bT BW3.out b4)
   have OC4 := Lib.hid (OC.out.below BW4.out)
   have HB4 := Lib.hid (bT HB.out BW4.out)
   clear hpb b4 E2 B3 BW3 x1 xl OC HB DW
   by_cases hin : a ∈ ids ∧ b ∈ ids
   ·have ea := B_yes hin.1
    have eb := B_yes hin.2
    have IS2 := Lib.hid (show (ps.take (k + 1)).flatMap (besI ps ids bs) = bareC cs ++ besF ps (bs.getD pa []) (bs.getD pb []) by rw [IS.out, BI.out, if_pos hin, PA.out hin.1, PB.out hin.2])
    have hpa : pa < ni := by rw [PA.out hin.1, ← HNI.out]; exact List.idxOf_lt_length_iff.2 hin.1
    have hpb : pb < ni := by rw [PB.out hin.2, ← HNI.out]; exact List.idxOf_lt_length_iff.2 hin.2
    have hva := VL.out pa hpa
    have hvb := VL.out pb hpb
    obtain ⟨A, eA, RA, -, -, lA, bA'⟩ := RO.out pa hpa
    obtain ⟨C, eC, RC, -, -, lC, bC'⟩ := RO.out pb hpb
    rw [eA, eC] at IS2
    obtain ⟨⟨sa, ka, ha1, hccl, ha2⟩, ⟨cv, ov, ta, la, rfl, hcvl, ha3, ha4⟩⟩ := RA
    obtain ⟨⟨sc, kc, hb1, -, hb2⟩, ⟨cv', ov', tc, lc, hcv, -, hb3, hb4⟩⟩ := RC
    cases hcv
    have SA := Lib.hid bA'
    have SC := Lib.hid bC'
    have KA2 := Lib.hid ha2
    have KC2 := Lib.hid hb2
    have KA4 := Lib.hid ha4
    have KC4 := Lib.hid hb4
    have KH : Hid (∀ W, Below w.heap.size w W → (cc < W.heap.size ∧ cv < W.heap.size) ∧ W.cell? ⟨cc, pa, none⟩ = some (.slice sa A.length ka) ∧ W.cell? ⟨cc, pb, none⟩ = some (.slice sc C.length kc) ∧ W.cell? ⟨cv, ov + pa, none⟩ = some (.slice ta A.length la) ∧ W.cell? ⟨cv, ov + pb, none⟩ = some (.slice tc C.length lc)) := fun W hW => ⟨⟨Nat.lt_of_lt_of_le hccl hW.size, Nat.lt_of_lt_of_le hcvl hW.size⟩, (hW.cell hccl).trans ha1, (hW.cell hccl).trans hb1, (hW.cell hcvl).trans ha3, (hW.cell hcvl).trans hb3⟩
    clear ha1 ha2 ha3 ha4 hb1 hb2 hb3 hb4 bA' bC' eA eC hccl hcvl IS BI PA PB
    have hpaI : (pa : Int) < (ni : Int) := by omega
    have hpbI : (pb : Int) < (ni : Int) := by omega
    have hvaI : (pa : Int) < (nv : Int) := by omega
    have hvbI : (pb : Int) < (nv : Int) := by omega
    generalize hLA : A.length = na at *
    have HLA := Lib.hid hLA
    clear hLA
    generalize hLC : C.length = nc at *
    have HLC := Lib.hid hLC
    clear hLC
    obtain ⟨⟨q0, q1⟩, q2, q3, q4, q5⟩ := KH.out w4 B4.out
    rw [ea, eb]
    clear ea eb hin
    rw [besF_R] at IS2
    go_wp2_with fail
    clear q0 q1 q2 q3 q4 q5
    go_loopw [10, 55] (fun v i wq => ∃ (q : Nat) (ds : List LCl), i = .int .i64 q ∧ q ≤ na ∧ Hid (OwC wq w1.heap.size v ds) ∧ ds.length ≤ k * 10000 + q * 100 ∧ Hid (bareC ds = bareC cs ++ (A.take q).flatMap (besR ps C)) ∧ Hid (Below w1.heap.size w1 wq)) (fun _ i _ => na - (intOf i).toNat)
    case atStart => exact ⟨0, cs, rfl, Nat.zero_le _, OC4, by omega, (by show bareC cs = bareC cs ++ _; simp), HB4⟩
    case round =>
     obtain ⟨q, ds, rfl, hq, OD, hdl, BD, HD⟩ := hrel
     have hq0 : (0 : Int) ≤ (q : Int) := by omega
     have DD := Lib.hid (bT D1.out HD.out)
     by_cases g2 : q < na
     ·have g2' : (q : Int) < (na : Int) := by omega
      have hlt : q < A.length := by rw [HLA.out]; exact g2
      obtain ⟨ca, oa, rfl, cal, hca⟩ : ∃ c o, sa = some ⟨c, o, none⟩ ∧ c < w.heap.size ∧ ∀ i (h : i < A.length), w.cell? ⟨c, o + i * 2, none⟩ = some (.int .i64 A[i].1.1) ∧ w.cell? ⟨c, o + i * 2 + 1, none⟩ = some (.int .i64 A[i].1.2) := by
       rcases KA2.out with e | h
       ·rw [e] at hlt; simp at hlt
       ·exact h
      obtain ⟨da, ua, rfl, dal, hda⟩ : ∃ c o, ta = some ⟨c, o, none⟩ ∧ c < w.heap.size ∧ ∀ i (h : i < A.length), w.cell? ⟨c, o + i, none⟩ = some (.int .i64 A[i].2) := by
       rcases KA4.out with e | h
       ·rw [e] at hlt; simp at hlt
       ·exact h
      have hx0 := (DD.out.cell cal).trans (hca q hlt).1
      have hx1 := (DD.out.cell cal).trans (hca q hlt).2
      have VX := Lib.hid (show ∀ W, Below w.heap.size w W → da < W.heap.size ∧ W.cell? ⟨da, ua + q, none⟩ = some (.int .i64 A[q].2) from fun W hW => ⟨Nat.lt_of_lt_of_le dal hW.size, (hW.cell dal).trans (hda q hlt)⟩)
      have SX := SA.out A[q] (List.getElem_mem hlt)
      have TS := Lib.hid (show (A.take (q + 1)).flatMap (besR ps C) = (A.take q).flatMap (besR ps C) ++ besR ps C A[q] from fm_step _ A q hlt)
      generalize A[q] = x at *
      clear hca hda cal dal
      clear hlt
      obtain ⟨⟨x1, x2⟩, xv⟩ := x
      dsimp only at hx0 hx1 SX VX
      obtain ⟨sx, xv0, xv1⟩ := SX
      have SXH := Lib.hid sx
      clear sx
      obtain ⟨⟨q0, q1⟩, q2, q3, q4, q5⟩ := KH.out wr DD.out
      have HX := Lib.hid (show (wr.alloc (.cells #[.int .i64 x1, .int .i64 x2] 131)).heap[wr.heap.size]? = some (.cells #[.int .i64 x1, .int .i64 x2] 131) from new_at _ _)
      have OD5 := Lib.hid (OD.out.below (bA0 wr (.cells #[.int .i64 x1, .int .i64 x2] 131)))
      have HD5 := Lib.hid (bA HD.out (.cells #[.int .i64 x1, .int .i64 x2] 131))
      obtain ⟨dsl, dcap, rfl⟩ := OD.out.v
      go_wp2_with fail
      generalize wr.alloc (.cells #[.int .i64 x1, .int .i64 x2] 131) = w5 at *
      clear q0 q1 q2 q3 q4 q5 hx0 hx1 OD HD DD
      obtain ⟨wi, rfl⟩ : ∃ wi, wi = wr := ⟨_, rfl⟩
      go_loopw [10, 65] (fun v i wq => ∃ (r : Nat) (es : List LCl), i = .int .i64 r ∧ r ≤ nc ∧ Hid (OwC wq w1.heap.size v es) ∧ es.length ≤ k * 10000 + q * 100 + r ∧ Hid (bareC es = bareC ds ++ (C.take r).flatMap (besO ps ((x1, x2), xv))) ∧ Hid (Below w1.heap.size w1 wq) ∧ Hid (wq.heap[wi.heap.size]? = some (.cells #[.int .i64 x1, .int .i64 x2] 131))) (fun _ i _ => nc - (intOf i).toNat)
      case atStart => exact ⟨0, ds, rfl, Nat.zero_le _, OD5, by omega, (by show bareC ds = bareC ds ++ _; simp), HD5, HX⟩
      case round =>
       obtain ⟨r, es, rfl, hr, OE, hel, BE, HE, HX⟩ := hrel
       have hr0 : (0 : Int) ≤ (r : Int) := by omega
       have DE := Lib.hid (bT D1.out HE.out)
       by_cases g3 : r < nc
       ·have g3' : (r : Int) < (nc : Int) := by omega
        have hlt : r < C.length := by rw [HLC.out]; exact g3
        obtain ⟨ce, oe, rfl, cel, hce⟩ : ∃ c o, sc = some ⟨c, o, none⟩ ∧ c < w.heap.size ∧ ∀ i (h : i < C.length), w.cell? ⟨c, o + i * 2, none⟩ = some (.int .i64 C[i].1.1) ∧ w.cell? ⟨c, o + i * 2 + 1, none⟩ = some (.int .i64 C[i].1.2) := by
         rcases KC2.out with e | h
         ·rw [e] at hlt; simp at hlt
         ·exact h
        obtain ⟨de, ue, rfl, del, hde⟩ : ∃ c o, tc = some ⟨c, o, none⟩ ∧ c < w.heap.size ∧ ∀ i (h : i < C.length), w.cell? ⟨c, o + i, none⟩ = some (.int .i64 C[i].2) := by
         rcases KC4.out with e | h
         ·rw [e] at hlt; simp at hlt
         ·exact h
        have hy0 := (DE.out.cell cel).trans (hce r hlt).1
        have hy1 := (DE.out.cell cel).trans (hce r hlt).2
        have VY := Lib.hid (show ∀ W, Below w.heap.size w W → de < W.heap.size ∧ W.cell? ⟨de, ue + r, none⟩ = some (.int .i64 C[r].2) from fun W hW => ⟨Nat.lt_of_lt_of_le del hW.size, (hW.cell del).trans (hde r hlt)⟩)
        have SY := SC.out C[r] (List.getElem_mem hlt)
        have US := Lib.hid (show (C.take (r + 1)).flatMap (besO ps ((x1, x2), xv)) = (C.take r).flatMap (besO ps ((x1, x2), xv)) ++ besO ps ((x1, x2), xv) C[r] from fm_step _ C r hlt)
        generalize C[r] = y at *
        clear hce hde cel del
        clear hlt
        obtain ⟨⟨y1, y2⟩, yv⟩ := y
        dsimp only at hy0 hy1 SY VY
        obtain ⟨sy, yv0, yv1⟩ := SY
        have BO : Hid (besO ps ((x1, x2), xv) ((y1, y2), yv) = if mayL ps x1 x2 y1 y2 = true then [] else [[-xv, -yv]]) := rfl
        have xl : wi.heap.size < wr.heap.size := (Array.getElem?_eq_some_iff.1 HX.out).1
        have xc0 : wr.cell? ⟨wi.heap.size, 0, none⟩ = some (.int .i64 x1) := by simp [World.cell?, HX.out]
        have xc1 : wr.cell? ⟨wi.heap.size, 1, none⟩ = some (.int .i64 x2) := by simp [World.cell?, HX.out]
        have BY := Lib.hid (bA (bA0 wr (.cells #[.int .i64 y1, .int .i64 y2] 131)) (.cells #[.int .i64 x1, .int .i64 x2] 131))
        have EE := Lib.hid (EF.out ((wr.alloc (.cells #[.int .i64 y1, .int .i64 y2] 131)).alloc (.cells #[.int .i64 x1, .int .i64 x2] 131)) (wr.heap.size + 1) kb (x1, x2) (y1, y2)
         (Or.inr ⟨wr.heap.size + 1, 0, rfl, ⟨by simp, fun i hi => by
          have e0 : i = 0 := by simp at hi; exact hi
          subst e0
          have := new_at (wr.alloc (.cells #[.int .i64 y1, .int .i64 y2] 131)) (.cells #[.int .i64 x1, .int .i64 x2] 131)
          rw [show (wr.alloc (.cells #[.int .i64 y1, .int .i64 y2] 131)).heap.size = wr.heap.size + 1 by simp] at this
          constructor <;> (unfold World.cell?; rw [this]; rfl)⟩⟩)
         (FK.out.below (bT HE.out BY.out)) SXH.out sy)
        have hsi := HE.out.size
        clear sy
        obtain ⟨esl, ecap, rfl⟩ := OE.out.v
        by_cases hmay : mayL ps x1 x2 y1 y2 = true
        ·rw [hmay] at EE
         rw [if_pos hmay] at BO
         rw [BO.out, List.append_nil] at US
         clear hmay BO
         go_wp2_with fail
         first | refine EE.out.mono ?_ | (go_at_call 213; refine EE.out.mono ?_)
         rintro e w7 ⟨rfl, b7⟩
         have B7 := Lib.hid (bT BY.out b7)
         have O7 := Lib.hid (OE.out.below B7.out)
         have H7 := Lib.hid (bT HE.out B7.out)
         have X7 := Lib.hid ((B7.out.block wi.heap.size xl).trans HX.out)
         have N7 : Hid (bareC es = bareC ds ++ (C.take (r + 1)).flatMap (besO ps ((x1, x2), xv))) := by rw [US.out]; exact BE.out
         clear b7 B7 EE BY OE HE HX xc0 xc1 DE US BE
         go_wp2
         go_roundw
         case rel => exact ⟨r + 1, es, by go_num, by omega, O7, by omega, N7, H7, X7⟩
         case measure => simp [intOf]; omega
        ·have hmf : mayL ps x1 x2 y1 y2 = false := by simpa using hmay
         rw [hmf] at EE
         rw [if_neg hmay] at BO
         clear hmay hmf
         go_wp2_with fail
         first | refine EE.out.mono ?_ | (go_at_call 213; refine EE.out.mono ?_)
         rintro e w7 ⟨rfl, b7⟩
         have B7 := Lib.hid (bT BY.out b7)
         have O7 := Lib.hid (OE.out.below B7.out)
         have H7 := Lib.hid (bT HE.out B7.out)
         have X7 := Lib.hid ((B7.out.block wi.heap.size xl).trans HX.out)
         have D7 := Lib.hid (bT D1.out H7.out)
         have KS : Hid (∀ W, Below w.heap.size w W → cv < W.heap.size ∧ da < W.heap.size ∧ de < W.heap.size ∧ W.cell? ⟨cv, ov + pa, none⟩ = some (.slice (some ⟨da, ua, none⟩) na la) ∧ W.cell? ⟨cv, ov + pb, none⟩ = some (.slice (some ⟨de, ue, none⟩) nc lc) ∧ W.cell? ⟨da, ua + q, none⟩ = some (.int .i64 xv) ∧ W.cell? ⟨de, ue + r, none⟩ = some (.int .i64 yv)) := fun W hW => ⟨(KH.out W hW).1.2, (VX.out W hW).1, (VY.out W hW).1, (KH.out W hW).2.2.2.1, (KH.out W hW).2.2.2.2, (VX.out W hW).2, (VY.out W hW).2⟩
         have W0 := Lib.hid (KS.out w7.drew D7.out.drew)
         have W1 := Lib.hid (KS.out _ (bA D7.out.drew (.cells #[.int .i64 (-xv), .int .i64 (-yv)] 2)))
         have W2 := Lib.hid (KS.out _ (bA (bA D7.out.drew (.cells #[.int .i64 (-xv), .int .i64 (-yv)] 2)) (.cells #[.slice (some ⟨w7.heap.size, 0, none⟩) 2 2] 34)))
         have ON := Lib.hid ((own_two w7.drew (-xv) (-yv)).alloc (.cells #[.slice (some ⟨w7.heap.size, 0, none⟩) 2 2] 34))
         have CV := Lib.hid (((show w7.drew.ownsRow _ _ _ _ _ _ from O7.out.row).alloc (.cells #[.int .i64 (-xv), .int .i64 (-yv)] 2)).alloc (.cells #[.slice (some ⟨w7.heap.size, 0, none⟩) 2 2] 34))
         have BA7 := Lib.hid (bA (bA (Below.refl w7.heap.size w7).drew (.cells #[.int .i64 (-xv), .int .i64 (-yv)] 2)) (.cells #[.slice (some ⟨w7.heap.size, 0, none⟩) 2 2] 34))
         have OL := Lib.hid (show ∀ j, (Value.slice esl es.length ecap).ownBlock = some j → w1.heap.size ≤ j from fun j hj => (O7.out.row.lt j hj).1)
         have hs7 := H7.out.size
         have wx : IntKind.i64.wrap (-xv) = -xv := by rw [IntKind.wrap_i64]; omega
         have wy : IntKind.i64.wrap (-yv) = -yv := by rw [IntKind.wrap_i64]; omega
         have hel2 : es.length ≤ 500000 := by omega
         clear b7 B7 EE BY OE HE HX xc0 xc1 xl DE
         go_wp2_with fail
         refine wp_region_held_drew (S := fun W => cv < W.heap.size ∧ da < W.heap.size ∧ de < W.heap.size ∧ W.cell? ⟨cv, ov + pa, none⟩ = some (.slice (some ⟨da, ua, none⟩) na la) ∧ W.cell? ⟨cv, ov + pb, none⟩ = some (.slice (some ⟨de, ue, none⟩) nc lc) ∧ W.cell? ⟨da, ua + q, none⟩ = some (.int .i64 xv) ∧ W.cell? ⟨de, ue + r, none⟩ = some (.int .i64 yv)) (by kernel_rfl) ?_ (fun hHeld => ?_)
         ·exact W0.out
         refine tw (i := 0) rfl ?_
         refine tw (i := 1) rfl ?_
         refine tw (i := 2) rfl ?_
         refine tw (i := 3) rfl ?_
         try simp only [Act.put, setIfInBounds_toArray, set_cons_zero, set_cons_succ, getElem_toArray, getElem_cons_succ, getElem_cons_zero]
         refine tw (i := 4) rfl ?_
         refine tw (i := 5) rfl ?_
         refine tw (i := 6) rfl ?_
         refine tw (i := 7) rfl ?_
         try simp only [Act.put, setIfInBounds_toArray, set_cons_zero, set_cons_succ, getElem_toArray, getElem_cons_succ, getElem_cons_zero]
         refine tw (i := 8) rfl ?_
         refine tw (i := 9) rfl ?_
         refine tw (i := 10) rfl ?_
         refine tw (i := 11) rfl ?_
         try simp only [Act.put, setIfInBounds_toArray, set_cons_zero, set_cons_succ, getElem_toArray, getElem_cons_succ, getElem_cons_zero]
         refine tw (i := 12) rfl ?_
         refine tw (i := 13) rfl ?_
         refine tw (i := 14) rfl ?_
         refine tw (i := 15) rfl ?_
         try simp only [Act.put, setIfInBounds_toArray, set_cons_zero, set_cons_succ, getElem_toArray, getElem_cons_succ, getElem_cons_zero]
         refine tw (i := 16) rfl ?_
         try simp only [Act.put, setIfInBounds_toArray, set_cons_zero, set_cons_succ, getElem_toArray, getElem_cons_succ, getElem_cons_zero]
         refine wpAnyH_ready (rs := [17]) (by kernel_rfl) (by simp) ?_
         refine AllReadyH.cons rfl (fun K hK => ?_) AllReadyH.nil
         go_simp
         refine hK.out _ _ ?_ (fun hHeld => ?_)
         ·exact W1.out
         clear hK K
         refine wpAnyH_ready (rs := [18]) (by kernel_rfl) (by simp) ?_
         refine AllReadyH.cons rfl (fun K hK => ?_) AllReadyH.nil
         go_simp
         refine hK.out _ _ ?_ (fun hHeld => ?_)
         ·exact W2.out
         clear hK K
         refine wpAnyH_ready (rs := [19]) (by kernel_rfl) (by simp) ?_
         refine AllReadyH.cons rfl (fun K hK => ?_) AllReadyH.nil
         refine step_append_lies _ rfl (.tmp 76) (.tmp 94) 31 rfl w1.heap.size 34 i4 (.slice none 0 0) 1 24 Tryz.underlying31 hi4 hd0 hd1 hd2 rfl (by decide) (.slice esl es.length ecap) es.length (hdC es) (by simp [Act.eval]) CV.out ⟨w7.heap.size + 1, 0, none⟩ 1 1 [.slice (some ⟨w7.heap.size, 0, none⟩) 2 2] (by simp [Act.eval]) rfl (cell_at_new' w7.drew _ _ _) (by intro u hu; simp at hu; subst hu; rfl) (by decide) (by unfold maxLen; omega) (by omega) (by simp; omega) (w7.heap.size + 2) (by simp) ?_
         intro g9 cap9 w9 own9 grow9 hg9 hlt9
         have N9 : Hid (OwC w9 w1.heap.size (.slice (some ⟨g9, 0, none⟩) (es.length + 1) cap9) (es ++ [(.slice (some ⟨w7.heap.size, 0, none⟩) 2 2, [-xv, -yv])])) :=
          O7.out.new BA7.out (own_mono ON.out hs7) (fun j hj => (ON.out.lt j hj).1) grow9 own9
         have H9 := Lib.hid ((bA (bA H7.out.drew (.cells #[.int .i64 (-xv), .int .i64 (-yv)] 2)) (.cells #[.slice (some ⟨w7.heap.size, 0, none⟩) 2 2] 34)).grown grow9 (by simp; omega) (fun j hj => OL.out j hj))
         have X9 := Lib.hid (blk_kept O7.out X7.out (by decide) BA7.out grow9)
         have W9 := Lib.hid (KS.out w9 (bT D1.out H9.out))
         have E9 : Hid (bareC (es ++ [(.slice (some ⟨w7.heap.size, 0, none⟩) 2 2, [-xv, -yv])]) = bareC ds ++ (C.take (r + 1)).flatMap (besO ps ((x1, x2), xv))) := by rw [US.out, BO.out, bareC_add, BE.out, List.append_assoc]; rfl
         have L9 : (es ++ [((Value.slice (some ⟨w7.heap.size, 0, none⟩) 2 2, [-xv, -yv]) : LCl)]).length ≤ k * 10000 + q * 100 + (r + 1) := by rw [List.length_append]; simp; omega
         clear own9 grow9 hg9 hlt9 ON CV BA7 OL
         generalize es ++ [((Value.slice (some ⟨w7.heap.size, 0, none⟩) 2 2, [-xv, -yv]) : LCl)] = es9 at *
         refine hK.out _ _ ?_ (fun hHeld => ?_)
         ·exact W9.out
         clear hK K
         refine tw (i := 20) rfl ?_
         try simp only [Act.put, setIfInBounds_toArray, set_cons_zero, set_cons_succ, getElem_toArray, getElem_cons_succ, getElem_cons_zero]
         refine wpAnyH_done (by kernel_rfl) ?_ _
         clear W0 W1 W2 W9 KS O7 H7 X7 D7 wx wy BE US BO
         go_wp2_with fail
         go_roundw
         case rel => exact ⟨r + 1, es9, by go_num, by omega, N9, L9, E9, H9, X9⟩
         case measure => simp [intOf]; omega
       ·have g3' : ¬ (r : Int) < (nc : Int) := by omega
        have N7 : Hid (bareC es = bareC cs ++ (A.take (q + 1)).flatMap (besR ps C)) := by
         rw [TS.out, BE.out, List.take_of_length_le (by rw [HLC.out]; omega), BD.out, List.append_assoc]; rfl
        have hel2 : es.length ≤ k * 10000 + (q + 1) * 100 := by omega
        clear BE HX
        go_wp2
        go_roundw
        case rel => exact ⟨q + 1, es, by go_num, by omega, OE, hel2, N7, HE⟩
        case measure => simp [intOf]; omega
     ·have g2' : ¬ (q : Int) < (na : Int) := by omega
      have N7 : Hid (bareC ds = (ps.take (k + 1)).flatMap (besI ps ids bs)) := by
       rw [IS2.out, BD.out, List.take_of_length_le (by rw [HLA.out]; omega)]
       exact Lib.hid rfl
      have hdl2 : ds.length ≤ (k + 1) * 10000 := by omega
      clear BD
      go_wp2
      go_roundw
      case rel => exact ⟨k + 1, ds, by go_num, by omega, OD, hdl2, N7, HD⟩
      case measure => simp [intOf]; omega
   ·have IS2 := Lib.hid (show (ps.take (k + 1)).flatMap (besI ps ids bs) = bareC cs by rw [IS.out, BI.out, if_neg hin, List.append_nil])
    have ee : ¬ (B (a ∈ ids) = true ∧ B (b ∈ ids) = true) := fun h => hin ⟨B_true h.1, B_true h.2⟩
    have hcl9 : cs.length ≤ (k + 1) * 10000 := by omega
    clear hin IS BI PA PB
    generalize B (a ∈ ids) = ba at *
    generalize B (b ∈ ids) = bb at *
    cases ba <;> cases bb
    all_goals first | (exact absurd ⟨rfl, rfl⟩ ee) | skip
    all_goals go_wp2
    all_goals go_roundw
    all_goals first | exact ⟨k + 1, cs, by go_num, by omega, OC4, hcl9, IS2.out.symm, HB4⟩ | (simp [intOf]; omega)
  ·have g1' : ¬ (k : Int) < (m : Int) := by omega
   have P := Lib.hid (show bareC cs = ps.flatMap (besI ps ids bs) by rw [BC.out, List.take_of_length_le (by rw [HM.out]; omega)])
   have O9 := Lib.hid (OC.out.mono hs1)
   clear BC OC
   go_wp2
   go_ret
   exact ⟨_, rfl, cs, O9.out, P.out, by omega, DW.out⟩
theorem own_cap {w : World} {B : Nat} {e : TypeId} {m : Nat} {sl : Option Addr} {n cap : Nat} {xs : List Value} (h : w.ownsRow B e m (.slice sl n cap) n xs) : n ≤ cap := by
 rcases h.2 with ⟨hv, h0⟩ | ⟨g, cp, cur, hv, _, _, h5, _⟩
 ·rw [h0]; exact Nat.zero_le _
 ·cases hv; exact h5
theorem twoF_len (zs : List Int) : (twoF zs).length ≤ zs.length * zs.length := by
 induction zs with
 | nil => exact Nat.le_refl _
 | cons x r ih =>
  simp only [twoF, List.length_append, List.length_map, List.length_cons]
  have : r.length * r.length + r.length ≤ (r.length + 1) * (r.length + 1) := by rw [Nat.add_mul, Nat.mul_add]; omega
  omega
theorem numR_len (rows : List LRow) : (numR rows).length = rows.length := by simp [numR, nbsF_len]
theorem numR_mem (rows : List LRow) (l : List Int) (h : l ∈ numR rows) : ∀ z ∈ l, 0 ≤ z ∧ z ≤ ((flatR rows).length : Int) := by
 intro z hz
 unfold numR at h
 obtain ⟨b, hb, rfl⟩ := List.mem_map.1 h
 obtain ⟨e, he, rfl⟩ := List.mem_map.1 hz
 have h1 : e ∈ nbF 0 (rows.map fun r => r.2).flatten := by rw [← nbsF_flat]; exact List.mem_flatten.2 ⟨b, hb, he⟩
 have h2 : e.2 ∈ (nbF 0 (rows.map fun r => r.2).flatten).map (fun e => e.2) := List.mem_map.2 ⟨e, h1, rfl⟩
 rw [nbF_snd, flat_len] at h2
 unfold numF at h2
 obtain ⟨i, hi, e2⟩ := List.mem_map.1 h2
 have := List.mem_range.1 hi
 omega
theorem numR_row (rows : List LRow) (m : Nat) (h : ∀ r ∈ rows, r.2.length ≤ m) (l : List Int) (hl : l ∈ numR rows) : l.length ≤ m := by
 obtain ⟨p, hp, rfl⟩ := List.getElem_of_mem hl
 rw [numR_len] at hp
 have e := nbsF_fst (rows.map fun r => r.2) 0
 have hp2 : p < (nbsF 0 (rows.map fun r => r.2)).length := by rw [nbsF_len, List.length_map]; exact hp
 have : ((nbsF 0 (rows.map fun r => r.2)).map (fun b => b.map fun e => e.1))[p]? = (rows.map fun r => r.2)[p]? := by rw [e]
 simp [hp2, hp] at this
 have h3 := congrArg List.length this
 rw [List.length_map] at h3
 simp only [numR, List.getElem_map, List.length_map]
 rw [h3]
 exact h _ (List.getElem_mem hp)
theorem numR_flat (rows : List LRow) : (numR rows).flatten.length = (flatR rows).length := by
 have : (numR rows).flatten = (nbF 0 (flatR rows)).map fun e => e.2 := by
  unfold numR
  rw [← List.map_flatten, nbsF_flat, flat_len]
 rw [this, List.length_map, nbF_len]
theorem flatC_bare (cs : List LCl) : flatC cs = (bareC cs).flatten := by unfold flatC bareC; rw [List.flatMap_def]
theorem idsR_small {rs : List LSt} {ps : List LPr} {ids : List Int} (h : IdsR rs ps ids) (x : Int) (hx : x ∈ ids) : 1 ≤ x ∧ x ≤ 999 := by
 have hr := inRise_of h.2.1.2.2.1 h.2.2.1 h.2.2.2
 obtain ⟨i, hi, e⟩ := List.getElem_of_mem hx
 have := (hr i hi).1
 rw [List.getD_eq_getElem?_getD, List.getElem?_eq_getElem hi] at this
 simp only [Option.getD_some] at this
 rw [e] at this
 exact this
theorem ch_small {rs : List LSt} {ps : List LPr} {ids : List Int} (top : Int) (h : IdsR rs ps ids) {rows : List LRow} (hm : rows.map (fun r => r.2) = ids.map (chF rs top)) : ∀ r ∈ rows, ∀ x ∈ r.2, Small x := by
 intro r hr x hx
 have : r.2 ∈ ids.map (chF rs top) := by rw [← hm]; exact List.mem_map.2 ⟨r, hr, rfl⟩
 obtain ⟨id, hid, e⟩ := List.mem_map.1 this
 rw [← e] at hx
 unfold chF at hx
 obtain ⟨c, hc, e2⟩ := List.mem_map.1 hx
 have h1 := idsR_small h id hid
 have h2 := dom_small rs ps id top c h.2.1 hc
 rw [← e2]
 exact ⟨⟨by show (0 : Int) ≤ id; omega, by show id ≤ 1000; omega⟩, ⟨by show (0 : Int) ≤ c; omega, by show c ≤ 1000; omega⟩⟩
theorem ch_96 {rs : List LSt} {ps : List LPr} {ids : List Int} (top : Int) (h : TabR rs ps) {rows : List LRow} (hm : rows.map (fun r => r.2) = ids.map (chF rs top)) : ∀ r ∈ rows, r.2.length ≤ 96 := by
 intro r hr
 have : r.2 ∈ ids.map (chF rs top) := by rw [← hm]; exact List.mem_map.2 ⟨r, hr, rfl⟩
 obtain ⟨id, hid, e⟩ := List.mem_map.1 this
 rw [← e]
 unfold chF
 rw [List.length_map]
 exact dom_le rs ps id top h
theorem app_none43 (w : World) (ty : TypeId) (base : Option Addr) (n cap : Nat) (hle : n ≤ cap) (p : Option Addr) (c : Nat) :
  (Builtin.append_ #[31, 31] ty #[.slice base n cap, .slice p 0 c]).run Tryz.prog w = .ok (.slice base n cap) w := by
 obtain ⟨i, h1, h2, h3, h4⟩ := info_parts info40
 refine run_append_nothing w 31 31 ty 34 i Tryz.underlying31 h1 base n cap hle _ ?_
 cases p with
 | none => exact Src.ofNil _ Tryz.underlying31 c
 | some a => exact Src.ofSlice _ Tryz.underlying31 a 0 c [] (by simp) (fun j u h => by simp at h) (fun u h => by cases h)
theorem OwC.form {w : World} {B : Nat} {v : Value} {cs : List LCl} (h : OwC w B v cs) (hne : cs ≠ []) : ∃ g cap, v = .slice (some ⟨g, 0, none⟩) cs.length cap ∧ ∀ (j : Nat) (u : Value), (hdC cs)[j]? = some u → w.cell? ((⟨g, 0, none⟩ : Addr).add j) = some u := by
 have hr := h.row
 rcases hr.2 with ⟨hv, h0⟩ | ⟨g, cap, cur, hv, hb, hg, _⟩
 ·exact absurd (List.eq_nil_of_length_eq_zero h0) hne
 ·exact ⟨g, cap, hv, hr.cells (by rw [hv]; rfl)⟩
theorem hdC_oneD {w : World} {B : Nat} {v : Value} {cs : List LCl} (h : OwC w B v cs) : ∀ u ∈ hdC cs, u.oneCell' = true := by
 intro u hu
 unfold hdC at hu
 obtain ⟨r, hr, rfl⟩ := List.mem_map.1 hu
 obtain ⟨sl, cap, e⟩ := own_v (h.each r hr)
 rw [e]; rfl
theorem hdC_len1 (cs : List LCl) : (hdC cs).length = cs.length * 1 := by simp [hdC]
theorem app43 {w0 w : World} {B : Nat} {v v2 : Value} {cs ds : List LCl} (h : OwC w0 B v cs) (hb : Below w0.heap.size w0 w) (h2 : OwC w w0.heap.size v2 ds) (hB : B ≤ w0.heap.size) (hl : cs.length + ds.length ≤ 100000000) :
  ∃ v9 w9, (Builtin.append_ #[31, 31] 31 #[v, v2]).run Tryz.prog w = .ok v9 w9 ∧ OwC w9 B v9 (cs ++ ds) ∧ w.grownBy w9 v.ownBlock ∧ ∀ j, v.ownBlock = some j → B ≤ j := by
 obtain ⟨i4, hi4, hd0, hd1, hd2⟩ := info_parts info40
 obtain ⟨sl, cap, rfl⟩ := h.v
 have hlo : ∀ j, (Value.slice sl cs.length cap).ownBlock = some j → B ≤ j := fun j hj => (h.row.lt j hj).1
 by_cases he : ds = []
 ·subst he
  obtain ⟨s2, c2, rfl⟩ := h2.v
  refine ⟨_, w, app_none43 w 31 sl cs.length cap (own_cap h.row) s2 c2, by rw [List.append_nil]; exact h.below hb, ⟨rfl, rfl, rfl, Nat.le_refl _, fun _ _ _ => rfl⟩, hlo⟩
 ·obtain ⟨g2, c2, rfl, hcell⟩ := h2.form he
  have hs := hb.size
  obtain ⟨g, c9, w9, hr, own9, grow9, -, -⟩ := run_append_lies (P := Tryz.prog) w 31 31 B 34 i4 (.slice none 0 0) 1 24 Tryz.underlying31 hi4 hd0 hd1 hd2 rfl (by decide) _ _ _ (own_below h.row hb) ⟨g2, 0, none⟩ ds.length c2 (hdC ds) (hdC_len1 ds) hcell (hdC_oneD h2) (List.length_pos_iff.2 he) (by unfold maxLen; omega) (by omega) (by omega) w.heap.size rfl
  exact ⟨_, w9, hr, h.join hb h2 hB grow9 (by rw [List.length_append]; exact own9), grow9, hlo⟩
end Go.Proofs.YtnihhbfgbilimaaGreatDoor
