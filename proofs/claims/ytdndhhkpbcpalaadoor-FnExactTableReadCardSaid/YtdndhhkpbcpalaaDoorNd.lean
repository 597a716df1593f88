/-
  FnExactTableRead WALKED: whatever text it is given.
-/
import Derived.Test.YtdndhhkpbcpalaaDoorNc
import Derived.Test.YtdndhhkpbcpalaaDoorKp
import Derived.Test.YtdndhhkpbcpalaaDoorAp
import Derived.Test.YtdndhhkpbcpalaaDoorAm
namespace Go.Proofs.YtdndhhkpbcpalaaDoor
open Go.RowKit
set_option linter.unusedVariables false
set_option linter.unusedSimpArgs false

/-! ### what is read is small -/
theorem lineP_tab {bs bs' : List BSt} {ps ps' : List LPr} {l : List UInt8} (h : lineP bs ps l = some (bs', ps')) : TabB bs' ps' := by
  unfold lineP at h
  dsimp only at h
  split at h
  · split at h
    · split at h
      · rename_i hc
        have h1 := Option.some.inj h
        rw [Prod.mk.injEq] at h1
        obtain ⟨rfl, rfl⟩ := h1
        exact B_true hc.2
      · cases h
    · split at h
      · rename_i hc
        have h1 := Option.some.inj h
        rw [Prod.mk.injEq] at h1
        obtain ⟨rfl, rfl⟩ := h1
        exact B_true hc.2
      · cases h
  · cases h
theorem run_tab (ls : List (List UInt8)) : ∀ (k : Nat) (bs : List BSt) (ps : List LPr), (TabB bs ps ∨ bs = [] ∧ ps = []) → ∀ x, runL k bs ps ls = .inr x → TabB x.1 x.2 ∨ x.1 = [] ∧ x.2 = [] := by
  induction ls with
  | nil =>
    intro k bs ps h x e
    rw [runL] at e
    injection e with e
    subst e
    exact h
  | cons l r ih =>
    intro k bs ps h x e
    rw [runL] at e
    cases hl : lineP bs ps l with
    | none => rw [hl] at e; cases e
    | some y =>
      rw [hl] at e
      exact ih _ _ _ (.inl (lineP_tab hl)) x e
theorem out_tab {s : ByteArray} {bs : List BSt} {ps : List LPr} {ln cd : Int} (h : outS s = (bs, ps, ln, cd)) : TabB bs ps ∨ bs = [] ∧ ps = [] := by
  unfold outS at h
  split at h
  · rw [Prod.mk.injEq, Prod.mk.injEq] at h
    exact .inr ⟨h.1.symm, h.2.1.symm⟩
  · unfold outF at h
    split at h
    · rw [Prod.mk.injEq, Prod.mk.injEq] at h
      exact .inr ⟨h.1.symm, h.2.1.symm⟩
    · rename_i x hx
      split at h
      · rw [Prod.mk.injEq, Prod.mk.injEq] at h
        exact .inr ⟨h.1.symm, h.2.1.symm⟩
      · rw [Prod.mk.injEq, Prod.mk.injEq] at h
        have := run_tab _ _ _ _ (.inr ⟨rfl, rfl⟩) x hx
        rw [h.1, h.2.1] at this
        exact this
theorem totD_bound (rs : List LSt) (q : Nat) (h : ∀ r ∈ rs, r.2.2.2.length ≤ q) : totD rs ≤ rs.length * q := by
  induction rs with
  | nil => simp [totD]
  | cons r t ih =>
    have h1 := ih fun x hx => h x (List.mem_cons_of_mem _ hx)
    have h2 := h r List.mem_cons_self
    have : totD (r :: t) = r.2.2.2.length + totD t := by simp [totD]
    rw [this, List.length_cons, Nat.succ_mul]
    omega
theorem out_small {s : ByteArray} {rs : List LSt} {ps : List LPr} {ln cd : Int} (h : outS s = (bare rs, ps, ln, cd)) : rs.length ≤ 12 ∧ ps.length ≤ 40 ∧ totD rs ≤ 96 := by
  rcases out_tab h with h | ⟨h1, h2⟩
  · have h := (tab_bare rs ps).1 h
    have hd : ∀ r ∈ rs, r.2.2.2.length ≤ 8 := fun r hr => (h.2.1 r hr).2.1.2
    have := totD_bound rs 8 hd
    exact ⟨h.1.2.1, h.1.2.2, by have := h.1.2.1; omega⟩
  · have e : rs = [] := by
      have := congrArg List.length h1
      simp [bare] at this
      exact this
    subst e h2
    exact ⟨by simp, by simp, by simp [totD]⟩

/-! ### the two, of any text -/
theorem str_all (s : ByteArray) (w : World) (hs : s.size ≤ 1048576) : Calls Tryd.prog 4 #[.string s] w fun e w' => RdPost w s e w' := by
  by_cases h : 20000 < s.size
  · exact str_long s w h (by omega)
  · exact str_read s w (by omega)
theorem itr_all (s : ByteArray) (m : Int) (w : World) (hs : s.size ≤ 1048576) (hm : w.cell? ⟨0, 0, none⟩ = some (.int .i64 m)) (h0 : 0 < w.heap.size) (hpw : PowTab w) : Calls Tryd.prog 5 #[.string s] w fun e w' => RdPost w s e w' := by
  by_cases h : 20000 < s.size
  · exact itr_long s w h (by omega)
  · exact itr_read s m w (by omega) hm h0 hpw (fun sl cap sl2 cap2 rs ps w a b c => itr_any sl cap sl2 cap2 rs ps w a b c)
/-- What both tell of a text: the rows by their lengths. -/
theorem rd_parts {w : World} {s : ByteArray} {e : Ending} {w' : World} (h : RdPost w s e w') : ∃ (sl : Option Addr) (cap : Nat) (tl : Option Addr) (kap : Nat) (rs : List LSt) (ps : List LPr) (ln cd : Int),
    e = .returned (.agg #[.slice sl rs.length cap, .slice tl ps.length kap, .int .i64 ln, .int .i64 cd]) ∧ OwT w' w.heap.size (.slice sl rs.length cap) (.slice tl ps.length kap) rs ps ∧ outS s = (bare rs, ps, ln, cd) ∧ Below w.heap.size w w' := by
  obtain ⟨u1, u2, rs, ps, ln, cd, rfl, ow, ho, hb⟩ := h
  obtain ⟨sl, cap, e1, _⟩ := own_st ow
  obtain ⟨tl, kap, e2, _⟩ := own_pr ow
  subst e1 e2
  exact ⟨sl, cap, tl, kap, rs, ps, ln, cd, rfl, ow, ho, hb⟩

set_option maxRecDepth 100000 in
set_option maxHeartbeats 1000000 in
/-- eqTableOut. -/
theorem eqo_any (B B' : Nat) (sl sl' : Option Addr) (cap cap' : Nat) (tl tl' : Option Addr) (kap kap' : Nat) (rs rs' : List LSt) (ps : List LPr) (ln cd : Int) (w : World) (hn : rs.length ≤ 1048576) (hm : ps.length ≤ 1048576) (hb : bare rs = bare rs') (h : OwT w B (.slice sl rs.length cap) (.slice tl ps.length kap) rs ps) (h' : OwT w B' (.slice sl' rs'.length cap') (.slice tl' ps.length kap') rs' ps) :
    Calls Tryd.prog 6 #[.agg #[.slice sl rs.length cap, .slice tl ps.length kap, .int .i64 ln, .int .i64 cd], .agg #[.slice sl' rs'.length cap', .slice tl' ps.length kap', .int .i64 ln, .int .i64 cd]] w fun e w' => e = .returned (.bool true) ∧ Below w.heap.size w w' := by
  have E1 : Hid (∀ W, Below w.heap.size w W → Calls Tryd.prog 13 #[.agg #[.slice sl rs.length cap, .slice tl ps.length kap], .agg #[.slice sl' rs'.length cap', .slice tl' ps.length kap']] W fun e w' => e = .returned (.bool true) ∧ Below W.heap.size W w') := fun W hW => by
    obtain ⟨s1, c1, e1, S1⟩ := own_st (h.below hW)
    obtain ⟨s2, c2, e2, S2⟩ := own_st (h'.below hW)
    obtain ⟨s3, c3, e3, S3⟩ := own_pr (h.below hW)
    obtain ⟨s4, c4, e4, S4⟩ := own_pr (h'.below hW)
    rw [Value.slice.injEq] at e1 e2 e3 e4
    obtain ⟨rfl, -, rfl⟩ := e1
    obtain ⟨rfl, -, rfl⟩ := e2
    obtain ⟨rfl, -, rfl⟩ := e3
    obtain ⟨rfl, -, rfl⟩ := e4
    exact eqT_any sl sl' cap cap' tl tl' kap kap' rs rs' ps W hn hm hb S1 S2 S3 S4
  clear h h' hb
  generalize rs.length = n at *
  generalize rs'.length = n' at *
  generalize ps.length = m at *
  go_enter Tryd.func6, Tryd.ntmps6
  go_wp2_with fail
  refine (E1.out _ (bA (bA0 _ _) _)).mono ?_
  rintro e w1 ⟨rfl, b1⟩
  have D1 := Lib.hid (bT (bA (bA0 w _) _) b1)
  obtain ⟨hc, hf⟩ := bcell b1
  clear b1
  go_wp2
  go_ret
  exact ⟨rfl, D1.out⟩

set_option maxRecDepth 100000 in
set_option maxHeartbeats 2000000 in
/-- FnExactTableRead. -/
theorem law3 (s : ByteArray) (m : Int) (W : World) (hm : W.cell? ⟨0, 0, none⟩ = some (.int .i64 m)) (h0 : 0 < W.heap.size) (hpw : PowTab W) :
    Calls Tryd.prog 3 #[.string s] W fun e w' => e = .returned (.bool true) ∧ Below W.heap.size W w' := by
  by_cases hs : (1048576 : Int) < (s.size : Int)
  · go_enter Tryd.func3, Tryd.ntmps3
    go_wp2
    go_ret
    exact ⟨rfl, Below.refl _ _⟩
  · have HS := Lib.hid (str_all s W (by omega))
    have HI : Hid (∀ w, Below W.heap.size W w → Calls Tryd.prog 5 #[.string s] w fun e w' => RdPost w s e w') := fun w hb => itr_all s m w (by omega) ((hb.cell h0).trans hm) (Nat.lt_of_lt_of_le h0 hb.size) (hpw.below hb)
    clear hm h0 hpw
    go_enter Tryd.func3, Tryd.ntmps3
    go_wp2_with fail
    refine HS.out.mono ?_
    intro e w1 hr
    obtain ⟨sl, cap, tl, kap, rs, ps, ln, cd, rfl, ow, ho, b1⟩ := rd_parts hr
    have HO := Lib.hid ho
    have HW := Lib.hid ow
    have B1 := Lib.hid b1
    have MA := new_at w1 (.cells #[.slice sl rs.length cap, .slice tl ps.length kap, .int .i64 ln, .int .i64 cd] 27)
    have bA1 := bA0 w1 (.cells #[.slice sl rs.length cap, .slice tl ps.length kap, .int .i64 ln, .int .i64 cd] 27)
    have MA1 := Lib.hid MA
    have BA1 := Lib.hid bA1
    have BAW := Lib.hid (bT b1 bA1)
    have hzA : (w1.alloc (.cells #[.slice sl rs.length cap, .slice tl ps.length kap, .int .i64 ln, .int .i64 cd] 27)).heap.size = w1.heap.size + 1 := by simp
    clear hr ho ow b1 MA bA1 HS
    go_wp2_with fail
    generalize w1.alloc (.cells #[.slice sl rs.length cap, .slice tl ps.length kap, .int .i64 ln, .int .i64 cd] 27) = wA at *
    refine (HI.out wA BAW.out).mono ?_
    intro e w2 hr
    obtain ⟨sl', cap', tl', kap', rs', ps', ln', cd', rfl, ow', ho', b2⟩ := rd_parts hr
    have he := HO.out.symm.trans ho'
    rw [Prod.mk.injEq, Prod.mk.injEq, Prod.mk.injEq] at he
    obtain ⟨hbr, rfl, rfl, rfl⟩ := he
    have HBR := Lib.hid hbr
    have HO' := Lib.hid ho'
    have HW' := Lib.hid ow'
    have hsm := out_small ho'
    have hsm0 := out_small HO.out
    have B2 := Lib.hid b2
    have LIM1 := Lib.hid (fun j (hj : (Value.slice sl' rs'.length cap').ownBlock = some j) => World.ownsRow.lt ow'.r1 j hj)
    have LIM2 := Lib.hid (fun j (hj : (Value.slice tl' ps.length kap').ownBlock = some j) => World.ownsRow.lt ow'.r2 j hj)
    have LIM3 : Hid (∀ r ∈ rs', ∀ j, domB r = some j → wA.heap.size ≤ j ∧ j < w2.heap.size) := fun r hr j hj => by
      obtain ⟨g, e, h1, h2⟩ := dom_lt (ow'.dom r hr)
      rw [e] at hj
      cases hj
      exact ⟨h1, h2⟩
    have MB := Lib.hid (new_at w2 (.cells #[.slice sl' rs'.length cap', .slice tl' ps.length kap', .int .i64 ln, .int .i64 cd] 27))
    have MAB := Lib.hid ((bA b2 (.cells #[.slice sl' rs'.length cap', .slice tl' ps.length kap', .int .i64 ln, .int .i64 cd] 27)).block w1.heap.size (by omega) |>.trans MA1.out)
    have BB := Lib.hid (bA b2 (.cells #[.slice sl' rs'.length cap', .slice tl' ps.length kap', .int .i64 ln, .int .i64 cd] 27))
    have BB2 := Lib.hid (bA0 w2 (.cells #[.slice sl' rs'.length cap', .slice tl' ps.length kap', .int .i64 ln, .int .i64 cd] 27))
    have hzB : (w2.alloc (.cells #[.slice sl' rs'.length cap', .slice tl' ps.length kap', .int .i64 ln, .int .i64 cd] 27)).heap.size = w2.heap.size + 1 := by simp
    have hz2 : w1.heap.size + 1 ≤ w2.heap.size := by rw [← hzA]; exact b2.size
    have cA := cellsAt MAB.out
    have cB := cellsAt MB.out
    have HH : Hid (∀ w, OwT w wA.heap.size (.slice sl' rs'.length cap') (.slice tl' ps.length kap') (mkR 1 rs') (mkP (1 + (szR rs' : Int)) ps.length) → Calls Tryd.prog 8 #[.agg #[.slice sl' rs'.length cap', .slice tl' ps.length kap', .int .i64 ln, .int .i64 cd], .int .i64 1] w fun e w' => e = .returned (.int .i64 (1 + (szR rs' : Int) + 3 * (ps.length : Int))) ∧ Below w.heap.size w w') := fun w h => hdo_any _ sl' cap' _ tl' kap' _ rs' ln cd rfl (by omega) w h
    have MM : Hid (∀ w, OwT w wA.heap.size (.slice sl' rs'.length cap') (.slice tl' ps.length kap') rs' ps → w2.heap.size ≤ w.heap.size → Calls Tryd.prog 7 #[.agg #[.slice sl' rs'.length cap', .slice tl' ps.length kap', .int .i64 ln, .int .i64 cd], .int .i64 1] w fun e w' => e = .returned (.int .i64 (1 + (szR rs' : Int) + 3 * (ps.length : Int))) ∧ OwT w' wA.heap.size (.slice sl' rs'.length cap') (.slice tl' ps.length kap') (mkR 1 rs') (mkP (1 + (szR rs' : Int)) ps.length) ∧ Btw wA.heap.size w2.heap.size w w') := fun w h hL => mko_any _ _ sl' cap' _ tl' kap' _ rs' ps ln cd rfl rfl (by omega) w h LIM1.out LIM2.out LIM3.out hL
    have hq0 : ¬ (1 + (szR rs' : Int) + 3 * (ps.length : Int)) < 0 := by omega
    clear hr ho' ow' b2 hbr
    go_wp2_with fail
    generalize w2.alloc (.cells #[.slice sl' rs'.length cap', .slice tl' ps.length kap', .int .i64 ln, .int .i64 cd] 27) = wB at *
    have BW2 := Lib.hid (BA1.out.trans (BB.out.mono (by omega)))
    have hAB := (Array.getElem?_eq_some_iff.1 MAB.out).1
    have hBB := (Array.getElem?_eq_some_iff.1 MB.out).1
    refine (eqo_any _ _ sl' sl cap' cap tl' tl kap' kap rs' rs ps ln cd wB (by omega) (by omega) HBR.out.symm (HW'.out.below BB2.out) (HW.out.below BW2.out)).mono ?_
    rintro e w3 ⟨rfl, b3⟩
    have MA3 := Lib.hid ((b3.block w1.heap.size hAB).trans MAB.out)
    have MB3 := Lib.hid ((b3.block w2.heap.size hBB).trans MB.out)
    have HW3 := Lib.hid (HW'.out.below (bT BB2.out b3))
    have BW3 := Lib.hid (bT BW2.out b3)
    have BA3 := Lib.hid (bT BB.out b3)
    have hL3 : w2.heap.size ≤ w3.heap.size := Nat.le_trans BB2.out.size b3.size
    clear cA cB b3 hAB hBB
    have cB := cellsAt MB3.out
    go_wp2_with fail
    refine (MM.out w3 HW3.out hL3).mono ?_
    rintro e w4 ⟨rfl, o4, b4⟩
    have MA4 := Lib.hid ((b4.block w1.heap.size (Array.getElem?_eq_some_iff.1 MA3.out).1 (.inl (by omega))).trans MA3.out)
    have MB4 := Lib.hid ((b4.block w2.heap.size (Array.getElem?_eq_some_iff.1 MB3.out).1 (.inr (Nat.le_refl _))).trans MB3.out)
    have O4 := Lib.hid o4
    have b4b := b4.below BA3.out.size
    have BW4 := Lib.hid (BW3.out.trans (b4b.mono (by omega)))
    clear o4 b4 cB MM
    have cB := cellsAt MB4.out
    generalize 1 + (szR rs' : Int) + 3 * (ps.length : Int) = q at *
    go_wp2_with fail
    refine (HH.out w4 O4.out).mono ?_
    rintro e w5 ⟨rfl, b5⟩
    have MA5 := Lib.hid ((b5.block w1.heap.size (Array.getElem?_eq_some_iff.1 MA4.out).1).trans MA4.out)
    have MB5 := Lib.hid ((b5.block w2.heap.size (Array.getElem?_eq_some_iff.1 MB4.out).1).trans MB4.out)
    have O5 := Lib.hid (O4.out.below b5)
    have BW5 := Lib.hid (bT BW4.out b5)
    have BX5 := Lib.hid (B1.out.trans (BW5.out.mono B1.out.size))
    clear b5 cB
    go_wp2_with fail
    refine (HI.out w5 BX5.out).mono ?_
    intro e w6 hr
    obtain ⟨sl2, cap2, tl2, kap2, rs2, ps2, ln2, cd2, rfl, ow2, ho2, b6⟩ := rd_parts hr
    have he := HO.out.symm.trans ho2
    rw [Prod.mk.injEq, Prod.mk.injEq, Prod.mk.injEq] at he
    obtain ⟨hbr, rfl, rfl, rfl⟩ := he
    have HBR2 := Lib.hid hbr
    have hsm2 := out_small ho2
    have MC := new_at w6 (.cells #[.slice sl2 rs2.length cap2, .slice tl2 ps.length kap2, .int .i64 ln, .int .i64 cd] 27)
    have bC := bA b6 (.cells #[.slice sl2 rs2.length cap2, .slice tl2 ps.length kap2, .int .i64 ln, .int .i64 cd] 27)
    have HW6 := Lib.hid (ow2.below (bA0 w6 (.cells #[.slice sl2 rs2.length cap2, .slice tl2 ps.length kap2, .int .i64 ln, .int .i64 cd] 27)))
    have MA6 := Lib.hid ((bC.block w1.heap.size (Array.getElem?_eq_some_iff.1 MA5.out).1).trans MA5.out)
    have MB6 := Lib.hid ((bC.block w2.heap.size (Array.getElem?_eq_some_iff.1 MB5.out).1).trans MB5.out)
    have O6 := Lib.hid (O5.out.below bC)
    have BW6 := Lib.hid (bT BW5.out bC)
    have cA := cellsAt MA6.out
    have cC := cellsAt MC
    clear hr ho2 ow2 b6 hbr bC
    go_wp2_with fail
    generalize w6.alloc (.cells #[.slice sl2 rs2.length cap2, .slice tl2 ps.length kap2, .int .i64 ln, .int .i64 cd] 27) = wC at *
    refine (eqo_any _ _ sl2 sl cap2 cap tl2 tl kap2 kap rs2 rs ps ln cd wC (by omega) (by omega) HBR2.out.symm HW6.out (HW.out.below BW6.out)).mono ?_
    rintro e w7 ⟨rfl, b7⟩
    have MB7 := Lib.hid ((b7.block w2.heap.size (Array.getElem?_eq_some_iff.1 MB6.out).1).trans MB6.out)
    have O7 := Lib.hid (O6.out.below b7)
    have BW7 := Lib.hid (bT BW6.out b7)
    clear cA cC b7 MC
    have cB := cellsAt MB7.out
    go_wp2_with fail
    refine (HH.out w7 O7.out).mono ?_
    rintro e w8 ⟨rfl, b8⟩
    have BW8 := Lib.hid (bT BW7.out b8)
    have BX8 := Lib.hid (B1.out.trans (BW8.out.mono B1.out.size))
    clear b8 cB
    go_wp2
    go_ret
    exact ⟨rfl, BX8.out⟩
end Go.Proofs.YtdndhhkpbcpalaaDoor
