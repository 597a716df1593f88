/-
  THE LAW FnExactLemmasRead: its walk.
-/
import Derived.Test.YtoncpiaboceefaaDoorFu
namespace Go.Proofs.YtoncpiaboceefaaDoor
open Go.RowKit
set_option linter.unusedVariables false

theorem lem_len {zs : List Int} (h : lemB zs = true) : zs.length ≤ 96 := by
  unfold lemB at h
  simp only [Bool.and_eq_true, decide_eq_true_eq] at h
  exact h.1.1
theorem specR_small : ∀ (L : List (List UInt8)) (i : Nat) (acc : List (List Int)), acc.length ≤ i → i ≤ 400 → (∀ l ∈ acc, l.length ≤ 96) → (specR i acc L).1.length ≤ 400 ∧ ∀ l ∈ (specR i acc L).1, l.length ≤ 96 := by
  intro L
  induction L with
  | nil => intro i acc h1 h2 h3; exact ⟨by simp only [specR]; omega, h3⟩
  | cons l r ih =>
    intro i acc h1 h2 h3
    rw [specR]
    by_cases hr : r = []
    · rw [if_pos hr]
      by_cases hl : l = []
      · rw [if_pos hl]; exact ⟨by show acc.length ≤ 400; omega, h3⟩
      · rw [if_neg hl]; exact ⟨by simp, by simp⟩
    · rw [if_neg hr]
      by_cases hc : (litK l && lemB (litV l) && decide (i < 400)) = true
      · rw [if_pos hc]
        simp only [Bool.and_eq_true, decide_eq_true_eq] at hc
        refine ih (i + 1) (acc ++ [litV l]) (by simp; omega) (by omega) (fun x hx => ?_)
        rcases List.mem_append.1 hx with hx | hx
        · exact h3 x hx
        · simp at hx; subst hx; exact lem_len hc.1.2
      · rw [if_neg hc]; exact ⟨by simp, by simp⟩
theorem outR_small (s : ByteArray) : (outR s).1.length ≤ 400 ∧ ∀ l ∈ (outR s).1, l.length ≤ 96 := by
  have h := specR_small (splitL 10 s.data.toList) 0 [] (by simp) (by omega) (by simp)
  unfold outR
  split
  · exact ⟨by simp, by simp⟩
  · split
    · exact h
    · exact ⟨by simp, by simp⟩
theorem tot_small : ∀ cs : List LCl, (∀ r ∈ cs, r.2.length ≤ 96) → totC cs ≤ 96 * cs.length := by
  intro cs
  induction cs with
  | nil => intro _; simp [totC]
  | cons r cs ih =>
    intro h
    have h1 := h r (by simp)
    have h2 := ih (fun x hx => h x (by simp [hx]))
    have : totC (r :: cs) = r.2.length + totC cs := by simp [totC]
    simp only [List.length_cons]
    omega
theorem Rd_form {s : ByteArray} {w : World} {e : Ending} {w' : World} (h : RdPost s w e w') :
    ∃ sl cap cs, e = .returned (COv sl cs.length cap ((outR s).2.1 : Nat) (outR s).2.2) ∧ bareC cs = (outR s).1 ∧ OwC w' w.heap.size (.slice sl cs.length cap) cs ∧ Below w.heap.size w w' ∧ cs.length ≤ 400 ∧ (∀ r ∈ cs, r.2.length ≤ 96) ∧ totC cs ≤ 38400 := by
  obtain ⟨sl, n, cap, cs, rfl, hb, hC, hB⟩ := h
  obtain ⟨sl', cap', e', -⟩ := hC.cls
  cases e'
  have hl : cs.length ≤ 400 := by
    have := (outR_small s).1
    rw [← hb] at this
    simpa [bareC] using this
  have he : ∀ r ∈ cs, r.2.length ≤ 96 := fun r hr => (outR_small s).2 r.2 (by rw [← hb]; exact List.mem_map.2 ⟨r, hr, rfl⟩)
  have := tot_small cs he
  exact ⟨sl, cap, cs, rfl, hb, hC, hB, hl, he, by omega⟩

set_option maxRecDepth 100000 in
set_option maxHeartbeats 4000000 in
theorem law9 (s : ByteArray) (w : World) (hg : w.cell? ⟨0, 0, none⟩ = some (.iface 203 (hdl 96))) :
    Calls Tryd.prog 9 #[.string s] w fun e w' => e = .returned (.bool true) ∧ Below w.heap.size w w' := by
  by_cases h : 1048576 < s.size
  · have h' : (1048576 : Int) < (s.size : Int) := by omega
    clear hg
    go_enter Tryd.func9, Tryd.ntmps9
    go_wp2
    go_ret
    exact ⟨rfl, Below.refl _ _⟩
  have h' : ¬ (1048576 : Int) < (s.size : Int) := by omega
  have h0 : 0 < w.heap.size := by
    rcases Nat.eq_zero_or_pos w.heap.size with h0 | h
    · simp [World.cell?, h0] at hg
    · exact h
  have SP := Lib.hid (slr_any s w)
  have IM : Hid (∀ w1, Below w.heap.size w w1 → Calls Tryd.prog 13 #[.string s] w1 fun e w' => RdPost s w1 e w') := fun w1 hb => ilr_any s w1 ((hb.cell (p := ⟨0, 0, none⟩) h0).trans hg)
  have RF := Lib.hid (fun (w1 : World) (e : Ending) (w' : World) (h : RdPost s w1 e w') => Rd_form h)
  clear hg h
  generalize ((outR s).2.1 : Nat) = ln at *
  generalize (outR s).2.2 = cd at *
  generalize (outR s).1 = R at *
  go_enter Tryd.func9, Tryd.ntmps9
  go_wp2_with fail
  refine SP.out.mono ?_
  intro e w1 hp1
  obtain ⟨slW, cW, csW, rfl, hbW, oW, b1, hlW, heW, htW⟩ := RF.out _ _ _ hp1
  obtain ⟨slW', cW', eW, clW⟩ := oW.cls
  cases eW
  have hB : (w1.alloc (O29 slW csW.length cW (ln : Int) cd)).heap.size = w1.heap.size + 1 := by simp
  have CW := Lib.hid (clW.below (bA0 w1 (O29 slW csW.length cW (ln : Int) cd)))
  have ZW := Lib.hid (new_at w1 (O29 slW csW.length cW (ln : Int) cd))
  have BW : Hid (Below w.heap.size w (w1.alloc (O29 slW csW.length cW (ln : Int) cd))) := bA b1 _
  clear hp1 oW b1 clW SP
  generalize hWB : w1.alloc (O29 slW csW.length cW (ln : Int) cd) = WB at *
  have EQ : Hid (∀ (W : World) (sl : Option Addr) (cap : Nat) (cs : List LCl), Below WB.heap.size WB W → bareC cs = R → cs.length ≤ 400 → Cls W sl cs → Calls Tryd.prog 34 #[COv sl cs.length cap (ln : Int) cd, COv slW csW.length cW (ln : Int) cd] W fun e w' => e = .returned (.bool true) ∧ Below W.heap.size W w') := fun W sl cap cs hb hr hl hc => eqO_any sl slW cap cW cs csW (ln : Int) cd W (by omega) (hr.trans hbW.symm) hc (CW.out.below hb)
  clear CW hlW heW htW hbW
  generalize csW.length = nW at *
  go_wp2_with fail
  refine (IM.out _ BW.out).mono ?_
  intro e w2 hp2
  obtain ⟨slG, cG, csG, rfl, hbG, oG, b2, hlG, heG, htG⟩ := RF.out _ _ _ hp2
  obtain ⟨slG', cG', eG, clG⟩ := oG.cls
  cases eG
  have hw2 : WB.heap.size ≤ w2.heap.size := b2.size
  have ZG := Lib.hid (new_at w2 (O29 slG csG.length cG (ln : Int) cd))
  have B2 : Hid (Below WB.heap.size WB (w2.alloc (O29 slG csG.length cG (ln : Int) cd))) := bA b2 _
  have OG := Lib.hid (oG.below (bA0 w2 (O29 slG csG.length cG (ln : Int) cd)))
  have E2 := Lib.hid (EQ.out _ slG cG csG B2.out hbG hlG (clG.below (bA0 w2 (O29 slG csG.length cG (ln : Int) cd))))
  have hz2 : (w2.alloc (O29 slG csG.length cG (ln : Int) cd)).heap.size = w2.heap.size + 1 := by simp
  have MK : Hid (∀ W, WB.heap.size ≤ W.heap.size → OwC W WB.heap.size (.slice slG csG.length cG) csG → Calls Tryd.prog 35 #[COv slG csG.length cG (ln : Int) cd, .int .i64 1] W fun e w' => e = .returned (.int .i64 (1 + (totC csG : Int))) ∧ OwC w' WB.heap.size (.slice slG csG.length cG) (mkC 1 csG) ∧ Below WB.heap.size W w' ∧ K30 W w') := fun W hW hO => mkO_any WB.heap.size slG csG.length cG (ln : Int) cd csG W (by omega) (fun r hr => by have := heG r hr; omega) (by omega) hW hO
  have HD : Hid (∀ W, OwC W WB.heap.size (.slice slG csG.length cG) (mkC 1 csG) → Calls Tryd.prog 36 #[COv slG csG.length cG (ln : Int) cd, .int .i64 1] W fun e w' => e = .returned (.int .i64 (1 + (totC csG : Int))) ∧ Below W.heap.size W w') := fun W hO => hdO_any WB.heap.size slG csG.length cG (ln : Int) cd csG W (by omega) (fun r hr => by have := heG r hr; omega) (by omega) hO
  have hq : ¬ (1 + (totC csG : Int)) < 0 := by omega
  have hq2 : ((1 + (totC csG : Int)) != (1 + (totC csG : Int))) = false := by simp
  clear hp2 oG clG b2 heG htG hlG hbG
  generalize mkC 1 csG = mG at *
  generalize totC csG = tG at *
  generalize csG.length = nG at *
  generalize hX2 : w2.alloc (O29 slG nG cG (ln : Int) cd) = X2 at *
  have YW := (B2.out.block w1.heap.size (by omega)).trans ZW.out
  obtain ⟨c0, c1, c2, c3, -, -⟩ := cells4 YW
  obtain ⟨d0, d1, d2, d3, -, -⟩ := cells4 ZG.out
  clear YW
  go_wp2_with fail
  refine E2.out.mono ?_
  rintro e w3 ⟨rfl, b3⟩
  have B3 := Lib.hid (bT B2.out b3)
  have ZG3 := Lib.hid ((b3.block w2.heap.size (by omega)).trans ZG.out)
  have OG3 := Lib.hid (OG.out.below b3)
  have hw3 : WB.heap.size ≤ w3.heap.size := B3.out.size
  clear E2 b3 B2 ZG OG c0 c1 c2 c3 d0 d1 d2 d3
  obtain ⟨d0, d1, d2, d3, -, -⟩ := cells4 ZG3.out
  go_wp2_with fail
  refine (MK.out _ hw3 OG3.out).mono ?_
  rintro e w4 ⟨rfl, o4, b4, k4⟩
  have B4 := Lib.hid (B3.out.trans b4)
  have ZG4 := Lib.hid (k4 _ _ ZG3.out)
  have OG4 := Lib.hid o4
  have hw4 : w3.heap.size ≤ w4.heap.size := b4.size
  clear o4 b4 k4 B3 ZG3 OG3 MK d0 d1 d2 d3
  obtain ⟨d0, d1, d2, d3, -, -⟩ := cells4 ZG4.out
  go_wp2_with fail
  refine (HD.out _ OG4.out).mono ?_
  rintro e w5 ⟨rfl, b5⟩
  have B5 := Lib.hid (bT B4.out b5)
  have ZG5 := Lib.hid ((b5.block w2.heap.size (Array.getElem?_eq_some_iff.1 ZG4.out).1).trans ZG4.out)
  have OG5 := Lib.hid (OG4.out.below b5)
  have hw5 : w4.heap.size ≤ w5.heap.size := b5.size
  have hw : w.heap.size ≤ WB.heap.size := BW.out.size
  have BW5 := Lib.hid (BW.out.trans (B5.out.mono hw))
  clear b5 B4 ZG4 OG4 d0 d1 d2 d3
  go_wp2_with fail
  refine (IM.out _ BW5.out).mono ?_
  intro e w6 hp6
  obtain ⟨slH, cH, csH, rfl, hbH, oH, b6, hlH, heH, htH⟩ := RF.out _ _ _ hp6
  obtain ⟨slH', cH', eH, clH⟩ := oH.cls
  cases eH
  have B6 : Hid (Below WB.heap.size WB (w6.alloc (O29 slH csH.length cH (ln : Int) cd))) := bA (bT B5.out b6) _
  have ZH := Lib.hid (new_at w6 (O29 slH csH.length cH (ln : Int) cd))
  have ZG6 : Hid ((w6.alloc (O29 slH csH.length cH (ln : Int) cd)).heap[w2.heap.size]? = some (O29 slG nG cG (ln : Int) cd)) := ((bA b6 _).block w2.heap.size (Array.getElem?_eq_some_iff.1 ZG5.out).1).trans ZG5.out
  have OG6 := Lib.hid ((OG5.out.below b6).below (bA0 w6 (O29 slH csH.length cH (ln : Int) cd)))
  have E6 := Lib.hid (EQ.out _ slH cH csH B6.out hbH hlH (clH.below (bA0 w6 (O29 slH csH.length cH (ln : Int) cd))))
  clear hp6 oH clH b6 heH htH hlH hbH B5 ZG5 OG5
  generalize csH.length = nH at *
  generalize hX6 : w6.alloc (O29 slH nH cH (ln : Int) cd) = X6 at *
  have YW := (B6.out.block w1.heap.size (by omega)).trans ZW.out
  obtain ⟨c0, c1, c2, c3, -, -⟩ := cells4 YW
  obtain ⟨d0, d1, d2, d3, -, -⟩ := cells4 ZH.out
  clear YW
  go_wp2_with fail
  refine E6.out.mono ?_
  rintro e w7 ⟨rfl, b7⟩
  have B7 := Lib.hid (bT B6.out b7)
  have ZG7 := Lib.hid ((b7.block w2.heap.size (Array.getElem?_eq_some_iff.1 ZG6.out).1).trans ZG6.out)
  have OG7 := Lib.hid (OG6.out.below b7)
  clear E6 b7 B6 ZG6 OG6 ZH c0 c1 c2 c3 d0 d1 d2 d3
  obtain ⟨d0, d1, d2, d3, -, -⟩ := cells4 ZG7.out
  go_wp2_with fail
  refine (HD.out _ OG7.out).mono ?_
  rintro e w8 ⟨rfl, b8⟩
  have B8 := Lib.hid (BW.out.trans ((bT B7.out b8).mono hw))
  clear b8 B7 ZG7 OG7 d0 d1 d2 d3
  go_wp2
  go_ret
  exact ⟨rfl, B8.out⟩

end Go.Proofs.YtoncpiaboceefaaDoor
