/-
  LEMMAS READ BY THE MODEL: spec.LemmasRead.
-/
import Derived.Test.YtoncpiaboceefaaDoorFs
namespace Go.Proofs.YtoncpiaboceefaaDoor
open Go.RowKit
set_option linter.unusedVariables false

theorem specR_last (k : Nat) (acc : List (List Int)) (L : List (List UInt8)) (l : List UInt8) (h : L[k]? = some l) (hk : k + 1 = L.length) : specR k acc (L.drop k) = if l = [] then (acc, 0, true) else ([], k, false) := by
  obtain ⟨hk', e⟩ := List.getElem?_eq_some_iff.1 h
  rw [List.drop_eq_getElem_cons hk', e, List.drop_of_length_le (show L.length ≤ k + 1 by omega), specR, if_pos rfl]
theorem specR_more (k : Nat) (acc : List (List Int)) (L : List (List UInt8)) (l : List UInt8) (h : L[k]? = some l) (hk : k + 1 < L.length) : specR k acc (L.drop k) = if (litK l && lemB (litV l) && decide (k < 400)) = true then specR (k + 1) (acc ++ [litV l]) (L.drop (k + 1)) else ([], k, false) := by
  obtain ⟨hk', e⟩ := List.getElem?_eq_some_iff.1 h
  rw [List.drop_eq_getElem_cons hk', e, specR, if_neg (fun e => by have := congrArg List.length e; rw [List.length_drop, List.length_nil] at this; omega)]

set_option maxRecDepth 100000 in
set_option maxHeartbeats 4000000 in
/-- spec.LemmasRead. -/
theorem slr_any (s : ByteArray) (w : World) :
    Calls Tryd.prog 16 #[.string s] w fun e w' => RdPost s w e w' := by
  by_cases hs : 20000 < s.size
  · have hs' : (20000 : Int) < (s.size : Int) := by omega
    have ho : outR s = ([], 0, 2) := by unfold outR; rw [if_pos hs]
    have PP : Hid (∀ w', Below w.heap.size w w' → RdPost s w (.returned (.agg #[.int .i64 0, .slice none 0 0, .int .i64 0, .int .i64 2])) w') := fun w' hb => ⟨none, 0, 0, [], by rw [ho]; rfl, by rw [ho]; rfl, OwC.nil _ _, hb⟩
    clear ho
    go_enter Tryd.func16, Tryd.ntmps16
    go_wp2
    exact bodyPost_ret (v := .agg #[.int .i64 0, .slice none 0 0, .int .i64 0, .int .i64 2]) (by simp [results, Tryd.results16, go_sem]) rfl (PP.out _ (bA0 _ _))
  have hs' : ¬ (20000 : Int) < (s.size : Int) := by omega
  obtain ⟨i40, hi0, hz0, hz1, hz2⟩ := info_parts info40
  have PY : Hid (∀ w' sl n cap cs, Below w.heap.size w w' → OwC w' w.heap.size (.slice sl n cap) cs → readR s = (bareC cs, 0, true) → RdPost s w (.returned (.agg #[.int .i64 0, .slice sl n cap, .int .i64 0, .int .i64 0])) w') := fun w' sl n cap cs hb hC hr => by
    have ho : outR s = (bareC cs, 0, 0) := by unfold outR; rw [if_neg (by omega), if_pos (by rw [hr]), hr]
    exact ⟨sl, n, cap, cs, by rw [ho]; rfl, by rw [ho], hC, hb⟩
  have PN : Hid (∀ w' (k : Nat), Below w.heap.size w w' → readR s = ([], k, false) → RdPost s w (.returned (.agg #[.int .i64 0, .slice none 0 0, .int .i64 (k : Int), .int .i64 3])) w') := fun w' k hb hr => by
    have ho : outR s = ([], k, 3) := by unfold outR; rw [if_neg (by omega), if_neg (by rw [hr]; simp), hr]
    exact ⟨none, 0, 0, [], by rw [ho], by rw [ho]; rfl, OwC.nil _ _, hb⟩
  have HR : Hid (specR 0 [] ((splitL 10 s.data.toList).drop 0) = readR s) := rfl
  have SP := Lib.hid (spl_any s 10 (w.alloc Z29) (by omega))
  have HP := Lib.hid (spl_piece 10 s.data.toList)
  have h1 := (split_len 10 s.data.toList).1
  have h2 := (split_len 10 s.data.toList).2
  have h3 : s.data.toList.length = s.size := by simp
  rw [h3] at HP h2
  generalize splitL 10 s.data.toList = L at *
  generalize hm : L.length = m at *
  have HM := Lib.hid hm
  clear hm h3
  go_enter Tryd.func16, Tryd.ntmps16
  go_wp2_with fail
  refine SP.out.mono ?_
  rintro e w5 ⟨v5, rfl, own5, b5⟩
  have own6 := own5
  rw [← HM.out] at own6
  obtain ⟨g, cp, rfl, hg, hcl⟩ := own_strs own6 (by rw [HM.out]; exact h1)
  rw [HM.out]
  have HC := Lib.hid hcl
  have Z5 : Hid (w5.heap[w.heap.size]? = some Z29) := (b5.block w.heap.size (by simp)).trans (new_at w Z29)
  have B5 := Lib.hid (bT (bA0 w Z29) b5)
  have hw5 : w.heap.size < w5.heap.size := by have := b5.size; simp at this; omega
  have N5 := Lib.hid (new_at w5 (.cells #[.int .i64 0, .slice none 0 0] 27))
  have hz5 : (w5.alloc (.cells #[.int .i64 0, .slice none 0 0] 27)).heap.size = w5.heap.size + 1 := by simp
  clear own5 own6 hcl b5 SP
  go_wp2_with fail
  go_loopw [5] (fun i wr => ∃ (k : Nat) (sl : Option Addr) (cap : Nat) (cs : List LCl), i = .int .i64 k ∧ k < m ∧ k ≤ 400 ∧ Hid (cs.length = k) ∧ Hid (Below w5.heap.size (w5.alloc (.cells #[.int .i64 0, .slice none 0 0] 27)) wr) ∧ Hid (wr.heap[w5.heap.size]? = some (.cells #[.int .i64 0, .slice sl k cap] 27)) ∧ Hid (OwC wr (w5.heap.size + 1) (.slice sl k cap) cs) ∧ Hid (specR k (bareC cs) (L.drop k) = readR s)) (fun i _ => m - (intOf i).toNat)
  case atStart => exact ⟨0, none, 0, [], rfl, by omega, by omega, rfl, Below.refl _ _, N5.out, OwC.nil _ _, HR.out⟩
  case round =>
    obtain ⟨k, sl, cap, cs, rfl, hkm, hk4, HN, H1, H2, H3, H4⟩ := hrel
    have hk0 : (0 : Int) ≤ (k : Int) := by omega
    have hkm' : (k : Int) < (m : Int) := by omega
    obtain ⟨l, hl⟩ : ∃ l, L[k]? = some l := ⟨_, List.getElem?_eq_getElem (by rw [HM.out]; exact hkm)⟩
    have hwr : w5.heap.size + 1 ≤ wr.heap.size := by have := H1.out.size; omega
    have BW : Hid (Below w.heap.size w wr) := (B5.out.trans ((bA0 w5 (.cells #[.int .i64 0, .slice none 0 0] 27)).mono (by omega))).trans (H1.out.mono (by omega))
    have hc : wr.cell? ⟨g, k, none⟩ = some (strV l) := by
      rw [H1.out.cell (p := ⟨g, k, none⟩) hg, (bA0 w5 (.cells #[.int .i64 0, .slice none 0 0] 27)).cell (p := ⟨g, k, none⟩) hg]
      exact HC.out k l hl
    have ZR : Hid (wr.heap[w.heap.size]? = some Z29) := (H1.out.block _ hw5).trans (((bA0 w5 (.cells #[.int .i64 0, .slice none 0 0] 27)).block _ hw5).trans Z5.out)
    have hll : l.length ≤ s.size := HP.out l (List.mem_of_getElem? hl)
    unfold strV at hc
    obtain ⟨c0, c1, cf, clt⟩ := cells2 H2.out
    obtain ⟨z0, z1, z2, z3, zf, zlt⟩ := cells4 ZR.out
    by_cases hla : k + 1 = m
    · have hla' : ((k : Int) == (m : Int) - 1) = true := by rw [beq_iff_eq]; omega
      have SL := Lib.hid (specR_last k (bareC cs) L l hl (by rw [HM.out]; exact hla))
      by_cases hle : l = []
      · subst hle
        have hP := put4 ZR.out (.int .i64 0) (.slice sl k cap) (.int .i64 0) (.int .i64 0)
        obtain ⟨q0, q1, q2, q3, -, -⟩ := cells4 hP
        have B9 := Lib.hid (below_put4 BW.out (Nat.le_refl w.heap.size) (.int .i64 0) (.slice sl k cap) (.int .i64 0) (.int .i64 0))
        have C9 := Lib.hid ((H3.out.put4 (b := w.heap.size) (by omega) (.int .i64 0) (.slice sl k cap) (.int .i64 0) (.int .i64 0)).mono (B' := w.heap.size) (by omega))
        clear hP
        go_wp2
        exact bodyPost_ret (v := .agg #[.int .i64 0, .slice sl k cap, .int .i64 0, .int .i64 0]) (by simp [results, Tryd.results16, go_sem, q0, q1, q2, q3]) rfl (PY.out _ sl k cap cs B9.out C9.out (by rw [← H4.out, SL.out]; simp))
      · have hnb : l.isEmpty = false := by simpa using hle
        have LT0 : Calls Tryd.prog 54 #[.string ⟨l.toArray⟩] wr fun e w' => ∃ v, e = .returned (.tuple #[v, .bool (litK l)]) ∧ w'.ownsRow wr.heap.size 2 1 v (litV l).length (valsZ (litV l)) ∧ Below wr.heap.size wr w' := by
          have := lit_any ⟨l.toArray⟩ wr (by show l.toArray.size ≤ _; simp; omega)
          simpa using this
        have LT := Lib.hid LT0
        clear LT0
        go_wp2_with fail
        refine LT.out.mono ?_
        rintro e w6 ⟨v6, rfl, own6, b6⟩
        clear z0 z1 z2 z3 zf zlt c0 c1 cf clt hc
        have Z9 := (b6.block w.heap.size (by omega)).trans ZR.out
        obtain ⟨z0, z1, z2, z3, zf, zlt⟩ := cells4 Z9
        have hP := put4 Z9 (.int .i64 0) (.slice none 0 0) (.int .i64 (k : Int)) (.int .i64 3)
        obtain ⟨q0, q1, q2, q3, -, -⟩ := cells4 hP
        have B9 := Lib.hid (below_put4 (bT BW.out b6) (Nat.le_refl w.heap.size) (.int .i64 0) (.slice none 0 0) (.int .i64 (k : Int)) (.int .i64 3))
        clear hP Z9
        go_wp2
        exact bodyPost_ret (v := .agg #[.int .i64 0, .slice none 0 0, .int .i64 (k : Int), .int .i64 3]) (by simp [results, Tryd.results16, go_sem, q0, q1, q2, q3]) rfl (PN.out _ k B9.out (by rw [← H4.out]; rw [SL.out, if_neg hle]))
    · have hla' : ((k : Int) == (m : Int) - 1) = false := by rw [beq_eq_false_iff_ne]; omega
      have SM := Lib.hid (specR_more k (bareC cs) L l hl (by rw [HM.out]; omega))
      have LT0 : Calls Tryd.prog 54 #[.string ⟨l.toArray⟩] wr fun e w' => ∃ v, e = .returned (.tuple #[v, .bool (litK l)]) ∧ w'.ownsRow wr.heap.size 2 1 v (litV l).length (valsZ (litV l)) ∧ Below wr.heap.size wr w' := by
        have := lit_any ⟨l.toArray⟩ wr (by show l.toArray.size ≤ _; simp; omega)
        simpa using this
      have LT := Lib.hid LT0
      clear LT0
      go_wp2_with fail
      refine LT.out.mono ?_
      rintro e w6 ⟨v6, rfl, own6, b6⟩
      clear z0 z1 z2 z3 zf zlt c0 c1 cf clt hc LT
      cases hlk : litK l
      · rw [hlk, Bool.false_and, Bool.false_and] at SM
        have Z9 := (b6.block w.heap.size (by omega)).trans ZR.out
        obtain ⟨z0, z1, z2, z3, zf, zlt⟩ := cells4 Z9
        have hP := put4 Z9 (.int .i64 0) (.slice none 0 0) (.int .i64 (k : Int)) (.int .i64 3)
        obtain ⟨q0, q1, q2, q3, -, -⟩ := cells4 hP
        have B9 := Lib.hid (below_put4 (bT BW.out b6) (Nat.le_refl w.heap.size) (.int .i64 0) (.slice none 0 0) (.int .i64 (k : Int)) (.int .i64 3))
        clear hP Z9
        go_wp2
        exact bodyPost_ret (v := .agg #[.int .i64 0, .slice none 0 0, .int .i64 (k : Int), .int .i64 3]) (by simp [results, Tryd.results16, go_sem, q0, q1, q2, q3]) rfl (PN.out _ k B9.out (by rw [← H4.out]; rw [SM.out, if_neg (by simp)]))
      · rw [hlk, Bool.true_and] at SM
        obtain ⟨sl6, cap6, rfl, hI6⟩ := own_ints own6
        have LE : Hid (Calls Tryd.prog 42 #[.slice sl6 (litV l).length cap6] w6 fun e w' => e = .returned (.bool (lemB (litV l))) ∧ w' = w6) := slem_any sl6 cap6 (litV l) w6 (own_len own6) hI6
        have O6 := Lib.hid own6
        have hw6 : wr.heap.size ≤ w6.heap.size := b6.size
        have B6 := Lib.hid b6
        clear own6 hI6 b6
        generalize hV : litV l = V at *
        generalize hd : V.length = d at *
        have HD := Lib.hid hd
        clear hd hV
        go_wp2_with fail
        refine LE.out.mono ?_
        rintro e w7 ⟨rfl, rfl⟩
        cases hlb : lemB V
        · rw [hlb, Bool.false_and] at SM
          have Z9 := (B6.out.block w.heap.size (by omega)).trans ZR.out
          obtain ⟨z0, z1, z2, z3, zf, zlt⟩ := cells4 Z9
          have hP := put4 Z9 (.int .i64 0) (.slice none 0 0) (.int .i64 (k : Int)) (.int .i64 3)
          obtain ⟨q0, q1, q2, q3, -, -⟩ := cells4 hP
          have B9 := Lib.hid (below_put4 (bT BW.out B6.out) (Nat.le_refl w.heap.size) (.int .i64 0) (.slice none 0 0) (.int .i64 (k : Int)) (.int .i64 3))
          clear hP Z9
          go_wp2
          exact bodyPost_ret (v := .agg #[.int .i64 0, .slice none 0 0, .int .i64 (k : Int), .int .i64 3]) (by simp [results, Tryd.results16, go_sem, q0, q1, q2, q3]) rfl (PN.out _ k B9.out (by rw [← H4.out]; rw [SM.out, if_neg (by simp)]))
        · rw [hlb, Bool.true_and] at SM
          by_cases h4 : k < 400
          · have h4' : ¬ (400 : Int) ≤ (k : Int) := by omega
            have h4'' : (k : Int) < 400 := by omega
            have E9 : Hid (specR (k + 1) (bareC cs ++ [V]) (L.drop (k + 1)) = readR s) := by
              have := SM.out
              rw [if_pos (by simp [h4])] at this
              exact this.symm.trans H4.out
            have H26 := (B6.out.block w5.heap.size (by omega)).trans H2.out
            obtain ⟨c0, c1, cf, clt⟩ := cells2 H26
            have C6 := Lib.hid (H3.out.below B6.out)
            have hown : Hid (w7.ownsRow (w5.heap.size + 1) 68 1 (.slice sl k cap) k (hdC cs)) := by
              have := C6.out.row
              rwa [HN.out] at this
            have hf9 : Hid (∀ j, Value.ownBlock (.slice sl6 d cap6) = some j → ∀ t ∈ cs, t.1.ownBlock ≠ some j) := fun j hj t ht e => by
              have a1 := (O6.out.lt j hj).1
              have a2 := ((H3.out.each t ht).lt j e).2
              omega
            have H27 := Lib.hid H26
            clear H26
            go_wp2_with (first | (at_builtin; refine wpList_append_lies _ rfl (.tmp 60) (.tmp 62) 23 rfl (w5.heap.size + 1) 68 i40 (.slice none 0 0) 1 24 Tryd.underlying23 hi0 hz0 hz1 hz2 rfl (by decide) _ _ _ rfl (own_below hown.out (bA0 _ _)) ⟨w7.heap.size, 0, none⟩ 1 1 [.slice sl6 d cap6] rfl rfl (cell_one_new _ _ _) (by intro u hu; simp at hu; rcases hu with rfl; rfl) (by decide) (by unfold maxLen; omega) (by omega) (by simp; omega) (w7.heap.size + 1) (by simp) ?_))
            intro g9 cap9 w9 own9 grow9 hg9 hlt9
            have hbr : ∀ j, Value.ownBlock (.slice sl k cap) = some j → w5.heap.size + 1 ≤ j := fun j hj => (hown.out.lt j hj).1
            have C9 : Hid (OwC w9 (w5.heap.size + 1) (.slice (some ⟨g9, 0, none⟩) (k + 1) cap9) (cs ++ [(.slice sl6 d cap6, V)])) := by
              refine C6.out.add (bA0 w7 (.cells #[.slice sl6 d cap6] 68)) ?_ hf9.out grow9 (by rw [HN.out]; exact own9)
              have := own_below (own_mono O6.out (show w5.heap.size + 1 ≤ wr.heap.size from hwr)) (bA0 w7 (.cells #[.slice sl6 d cap6] 68))
              show World.ownsRow _ _ _ _ _ V.length _
              rw [HD.out]; exact this
            have H29 := (grow9.block w5.heap.size (by simp; omega) (fun e => by have := hbr _ e.symm; omega)).trans (((bA0 w7 (.cells #[.slice sl6 d cap6] 68)).block w5.heap.size (by omega)).trans H27.out)
            obtain ⟨e0, e1, ef, elt⟩ := cells2 H29
            have H28 := Lib.hid (heap_setCell_same w9 w5.heap.size 1 _ 27 (.slice (some ⟨g9, 0, none⟩) (k + 1) cap9) H29)
            have C8 := Lib.hid (C9.out.setLow (b := w5.heap.size) (by omega) 1 (.slice (some ⟨g9, 0, none⟩) (k + 1) cap9))
            have B8 : Hid (Below w5.heap.size (w5.alloc (.cells #[.int .i64 0, .slice none 0 0] 27)) (w9.setCell ⟨w5.heap.size, 1, none⟩ (.slice (some ⟨g9, 0, none⟩) (k + 1) cap9))) :=
              (((H1.out.trans (B6.out.mono (by omega))).trans ((bA0 w7 (.cells #[.slice sl6 d cap6] 68)).mono (by omega))).grown grow9 (by simp; omega) (fun j hj => by have := hbr j hj; omega)).setCell (p := ⟨w5.heap.size, 1, none⟩) (Nat.le_refl _) _
            have HL9 : Hid ((cs ++ [((.slice sl6 d cap6 : Value), V)]).length = k + 1) := by show _ = _; rw [List.length_append, HN.out]; rfl
            have HB9 : Hid (bareC (cs ++ [((.slice sl6 d cap6 : Value), V)]) = bareC cs ++ [V]) := by show _ = _; rw [bareC_add]; rfl
            clear own9 grow9 hg9 hlt9 H29 c0 c1 cf clt
            go_wp2
            go_roundw
            case rel => exact ⟨k + 1, some ⟨g9, 0, none⟩, cap9, _, by go_num, by omega, by omega, HL9.out, B8.out, H28.out, C8.out, by rw [HB9.out]; exact E9.out⟩
            case measure => simp [intOf]; omega
          · have h4' : (400 : Int) ≤ (k : Int) := by omega
            have Z9 := (B6.out.block w.heap.size (by omega)).trans ZR.out
            obtain ⟨z0, z1, z2, z3, zf, zlt⟩ := cells4 Z9
            have hP := put4 Z9 (.int .i64 0) (.slice none 0 0) (.int .i64 (k : Int)) (.int .i64 3)
            obtain ⟨q0, q1, q2, q3, -, -⟩ := cells4 hP
            have B9 := Lib.hid (below_put4 (bT BW.out B6.out) (Nat.le_refl w.heap.size) (.int .i64 0) (.slice none 0 0) (.int .i64 (k : Int)) (.int .i64 3))
            clear hP Z9
            go_wp2
            exact bodyPost_ret (v := .agg #[.int .i64 0, .slice none 0 0, .int .i64 (k : Int), .int .i64 3]) (by simp [results, Tryd.results16, go_sem, q0, q1, q2, q3]) rfl (PN.out _ k B9.out (by rw [← H4.out]; rw [SM.out, if_neg (by simp; omega)]))

end Go.Proofs.YtoncpiaboceefaaDoor

