/-
  A CNF READ, HELD AGAINST ANOTHER, MARKED, HELD BY ITS MARKS: eqCnfOut, markCnfOut, heldCnfOut, with variables.
  THE LAW FnExactCnfRead: its walk, given what the model's reader tells.
-/
import Derived.Test.YtoncpiaboceefaaDoorFu
import Derived.Test.YtoncpiaboceefaaDoorGi
import Derived.Test.YtoncpiaboceefaaDoorFv
namespace Go.Proofs.YtoncpiaboceefaaDoor
open Go.RowKit
set_option linter.unusedVariables false

abbrev COw (vr : Int) (sl : Option Addr) (n cap : Nat) (ln cd : Int) : Value := .agg #[.int .i64 vr, .slice sl n cap, .int .i64 ln, .int .i64 cd]
abbrev O29w (vr : Int) (sl : Option Addr) (n cap : Nat) (ln cd : Int) : Obj := .cells #[.int .i64 vr, .slice sl n cap, .int .i64 ln, .int .i64 cd] 29
set_option maxRecDepth 100000 in
set_option maxHeartbeats 2000000 in
theorem eqOV_any (vr : Int) (sl sl' : Option Addr) (cap cap' : Nat) (cs cs' : List LCl) (ln cd : Int) (w : World) (hn : cs.length ≤ 1048576) (hb : bareC cs = bareC cs') (h : Cls w sl cs) (h' : Cls w sl' cs') :
    Calls Tryd.prog 34 #[COw vr sl cs.length cap ln cd, COw vr sl' cs'.length cap' ln cd] w fun e w' => e = .returned (.bool true) ∧ Below w.heap.size w w' := by
  have hz1 : (w.alloc (O29w vr sl cs.length cap ln cd)).heap.size = w.heap.size + 1 := by simp
  have B0 : Hid (Below w.heap.size w ((w.alloc (O29w vr sl cs.length cap ln cd)).alloc (O29w vr sl' cs'.length cap' ln cd))) := bA (bA0 _ _) _
  have E := Lib.hid (eqC_any vr sl sl' cap cap' cs cs' _ hn hb (h.below B0.out) (h'.below B0.out))
  have Z0 : Hid (((w.alloc (O29w vr sl cs.length cap ln cd)).alloc (O29w vr sl' cs'.length cap' ln cd)).heap[w.heap.size]? = some (O29w vr sl cs.length cap ln cd)) :=
    ((bA0 (w.alloc (O29w vr sl cs.length cap ln cd)) (O29w vr sl' cs'.length cap' ln cd)).block w.heap.size (by simp)).trans (new_at w _)
  have Z1 : Hid (((w.alloc (O29w vr sl cs.length cap ln cd)).alloc (O29w vr sl' cs'.length cap' ln cd)).heap[w.heap.size + 1]? = some (O29w vr sl' cs'.length cap' ln cd)) := by
    have := new_at (w.alloc (O29w vr sl cs.length cap ln cd)) (O29w vr sl' cs'.length cap' ln cd)
    rwa [hz1] at this
  clear h h' hb
  generalize cs.length = n at *
  generalize cs'.length = n' at *
  go_enter Tryd.func34, Tryd.ntmps34
  go_wp2_with fail
  refine E.out.mono ?_
  rintro e w3 ⟨rfl, b3⟩
  have Y0 := (b3.block w.heap.size (by simp; omega)).trans Z0.out
  have Y1 := (b3.block (w.heap.size + 1) (by simp)).trans Z1.out
  have B3 := Lib.hid (bT B0.out b3)
  obtain ⟨c0, c1, c2, c3, -, -⟩ := cells4 Y0
  obtain ⟨d0, d1, d2, d3, -, -⟩ := cells4 Y1
  clear E Z0 Z1 B0 b3 Y0 Y1
  go_wp2
  go_ret
  exact ⟨rfl, B3.out⟩

set_option maxRecDepth 100000 in
set_option maxHeartbeats 2000000 in
theorem mkCnfV_any (vr : Int) (B : Nat) (sl : Option Addr) (n cap : Nat) (cs : List LCl) (w : World) (hn : cs.length ≤ 100000000) (hr : ∀ r ∈ cs, r.2.length ≤ 1048576) (ht : totC cs ≤ 500000000) (hB : B ≤ w.heap.size) (h : OwC w B (.slice sl n cap) cs) :
    Calls Tryd.prog 82 #[CV vr sl n cap, .int .i64 1] w fun e w' => e = .returned (.int .i64 (1 + (totC cs : Int))) ∧ OwC w' B (.slice sl n cap) (mkC 1 cs) ∧ Below B w w' ∧ K30 w w' := by
  have M := Lib.hid (mkL_any B (.slice sl n cap) cs 1 (w.alloc (.cells #[.int .i64 vr, .slice sl n cap] 27)) (.slice none 0 0) 0 [] (World.ownsRow_nil _ B 2 1) (fun r hr j hj e => by cases e) hn hr ht (by omega) (by omega) (Nat.le_trans hB (bA0 w _).size) (h.below (bA0 w (.cells #[.int .i64 vr, .slice sl n cap] 27))))
  clear h hr
  go_enter Tryd.func82, Tryd.ntmps82
  go_wp2_with fail
  refine M.out.mono ?_
  rintro e w3 ⟨rfl, o3, b3, k3, -⟩
  have O3 := Lib.hid o3
  have B3 := Lib.hid (((bA0 w (.cells #[.int .i64 vr, .slice sl n cap] 27)).mono hB).trans b3)
  have K3 := Lib.hid ((K30.alloc w (.cells #[.int .i64 vr, .slice sl n cap] 27)).trans' k3)
  clear M o3 b3 k3
  go_wp2
  go_ret
  exact ⟨rfl, O3.out, B3.out, K3.out⟩

set_option maxRecDepth 100000 in
set_option maxHeartbeats 2000000 in
theorem mkOV_any (vr : Int) (B : Nat) (sl : Option Addr) (n cap : Nat) (ln cd : Int) (cs : List LCl) (w : World) (hn : cs.length ≤ 100000000) (hr : ∀ r ∈ cs, r.2.length ≤ 1048576) (ht : totC cs ≤ 500000000) (hB : B ≤ w.heap.size) (h : OwC w B (.slice sl n cap) cs) :
    Calls Tryd.prog 35 #[COw vr sl n cap ln cd, .int .i64 1] w fun e w' => e = .returned (.int .i64 (1 + (totC cs : Int))) ∧ OwC w' B (.slice sl n cap) (mkC 1 cs) ∧ Below B w w' ∧ K30 w w' := by
  have M := Lib.hid (mkCnfV_any vr B sl n cap cs (w.alloc (O29w vr sl n cap ln cd)) hn hr ht (Nat.le_trans hB (bA0 w _).size) (h.below (bA0 w (O29w vr sl n cap ln cd))))
  clear h hr
  go_enter Tryd.func35, Tryd.ntmps35
  go_wp2_with fail
  refine M.out.mono ?_
  rintro e w3 ⟨rfl, o3, b3, k3⟩
  have O3 := Lib.hid o3
  have B3 := Lib.hid (((bA0 w (O29w vr sl n cap ln cd)).mono hB).trans b3)
  have K3 := Lib.hid ((K30.alloc w (O29w vr sl n cap ln cd)).trans' k3)
  clear M o3 b3 k3
  go_wp2
  go_ret
  exact ⟨rfl, O3.out, B3.out, K3.out⟩

set_option maxRecDepth 100000 in
set_option maxHeartbeats 2000000 in
theorem hdCnfV_any (vr : Int) (B : Nat) (sl : Option Addr) (n cap : Nat) (cs : List LCl) (w : World) (hn : cs.length ≤ 100000000) (hr : ∀ r ∈ cs, r.2.length ≤ 1048576) (ht : totC cs ≤ 500000000) (h : OwC w B (.slice sl n cap) (mkC 1 cs)) :
    Calls Tryd.prog 83 #[CV vr sl n cap, .int .i64 1] w fun e w' => e = .returned (.int .i64 (1 + (totC cs : Int))) ∧ Below w.heap.size w w' := by
  have M := Lib.hid (hdL_any B (.slice sl n cap) cs 1 (w.alloc (.cells #[.int .i64 vr, .slice sl n cap] 27)) hn hr ht (by omega) (by omega) (h.below (bA0 w (.cells #[.int .i64 vr, .slice sl n cap] 27))))
  have h0 : ¬ (1 + (totC cs : Int)) < 0 := by omega
  clear h hr
  go_enter Tryd.func83, Tryd.ntmps83
  go_wp2_with fail
  refine M.out.mono ?_
  rintro e w3 ⟨rfl, rfl⟩
  have B3 := Lib.hid (bA0 w (.cells #[.int .i64 vr, .slice sl n cap] 27))
  clear M
  go_wp2
  go_ret
  exact ⟨rfl, B3.out⟩

set_option maxRecDepth 100000 in
set_option maxHeartbeats 2000000 in
theorem hdOV_any (vr : Int) (B : Nat) (sl : Option Addr) (n cap : Nat) (ln cd : Int) (cs : List LCl) (w : World) (hn : cs.length ≤ 100000000) (hr : ∀ r ∈ cs, r.2.length ≤ 1048576) (ht : totC cs ≤ 500000000) (h : OwC w B (.slice sl n cap) (mkC 1 cs)) :
    Calls Tryd.prog 36 #[COw vr sl n cap ln cd, .int .i64 1] w fun e w' => e = .returned (.int .i64 (1 + (totC cs : Int))) ∧ Below w.heap.size w w' := by
  have M := Lib.hid (hdCnfV_any vr B sl n cap cs (w.alloc (O29w vr sl n cap ln cd)) hn hr ht (h.below (bA0 w (O29w vr sl n cap ln cd))))
  have h0 : ¬ (1 + (totC cs : Int)) < 0 := by omega
  clear h hr
  go_enter Tryd.func36, Tryd.ntmps36
  go_wp2_with fail
  refine M.out.mono ?_
  rintro e w3 ⟨rfl, b3⟩
  have B3 := Lib.hid (bT (bA0 w (O29w vr sl n cap ln cd)) b3)
  clear M b3
  go_wp2
  go_ret
  exact ⟨rfl, B3.out⟩

end Go.Proofs.YtoncpiaboceefaaDoor
namespace Go.Proofs.YtoncpiaboceefaaDoor
open Go.RowKit
set_option linter.unusedVariables false

theorem specC_small (vars : Int) (many : Nat) : ∀ (L : List (List UInt8)) (i : Nat) (acc : List (List Int)), acc.length ≤ i → i ≤ many → (∀ l ∈ acc, l.length ≤ 96) → (specC vars many i acc L).1.length ≤ many ∧ ∀ l ∈ (specC vars many i acc L).1, l.length ≤ 96 := by
  intro L
  induction L with
  | nil => intro i acc h1 h2 h3; exact ⟨by simp only [specC]; omega, h3⟩
  | cons l r ih =>
    intro i acc h1 h2 h3
    rw [specC]
    by_cases hr : r = []
    · rw [if_pos hr]
      by_cases hl : l = [] ∧ i = many
      · rw [if_pos hl]; exact ⟨by show acc.length ≤ many; omega, h3⟩
      · rw [if_neg hl]; exact ⟨by simp, by simp⟩
    · rw [if_neg hr]
      by_cases hc : (litK l && B (ClR vars (litV l)) && decide (i < many)) = true
      · rw [if_pos hc]
        simp only [Bool.and_eq_true, decide_eq_true_eq] at hc
        refine ih (i + 1) (acc ++ [litV l]) (by simp; omega) (by omega) (fun x hx => ?_)
        rcases List.mem_append.1 hx with hx | hx
        · exact h3 x hx
        · simp at hx; subst hx; have := (B_true hc.1.2).1; omega
      · rw [if_neg hc]; exact ⟨by simp, by simp⟩
theorem readS_small (t : List UInt8) : (readS t).2.1.length ≤ 4000 ∧ ∀ l ∈ (readS t).2.1, l.length ≤ 96 := by
  unfold readS
  split
  · exact ⟨by simp, by simp⟩
  · exact ⟨by simp, by simp⟩
  · rename_i l r _ _
    by_cases h : headS l = true
    · rw [if_pos h]
      obtain ⟨v, m, hr, rfl⟩ := headS_yes h
      obtain ⟨e1, e2⟩ := headS_vals v m hr
      rw [e1, e2]
      have h2 := specC_small v m.toNat r 0 [] (by simp) (by omega) (by simp)
      have := hr.2
      exact ⟨by show (specC v m.toNat 0 [] r).1.length ≤ 4000; omega, h2.2⟩
    · rw [if_neg h]; exact ⟨by simp, by simp⟩
theorem outS_small (s : ByteArray) : (outS s).2.1.length ≤ 4000 ∧ ∀ l ∈ (outS s).2.1, l.length ≤ 96 := by
  have h := readS_small s.data.toList
  unfold outS
  split
  · exact ⟨by simp, by simp⟩
  · split
    · exact h
    · exact ⟨by simp, by simp⟩
theorem Rd2_form {s : ByteArray} {w : World} {e : Ending} {w' : World} (h : RdPost2 s w e w') :
    ∃ sl cap cs, e = .returned (COw (outS s).1 sl cs.length cap ((outS s).2.2.1 : Nat) (outS s).2.2.2) ∧ bareC cs = (outS s).2.1 ∧ OwC w' w.heap.size (.slice sl cs.length cap) cs ∧ Below w.heap.size w w' ∧ cs.length ≤ 4000 ∧ (∀ r ∈ cs, r.2.length ≤ 96) ∧ totC cs ≤ 384000 := by
  obtain ⟨sl, n, cap, cs, rfl, hb, hC, hB⟩ := h
  obtain ⟨sl', cap', e', -⟩ := hC.cls
  cases e'
  have hl : cs.length ≤ 4000 := by
    have := (outS_small s).1
    rw [← hb] at this
    simpa [bareC] using this
  have he : ∀ r ∈ cs, r.2.length ≤ 96 := fun r hr => (outS_small s).2 r.2 (by rw [← hb]; exact List.mem_map.2 ⟨r, hr, rfl⟩)
  have := tot_small cs he
  exact ⟨sl, cap, cs, rfl, hb, hC, hB, hl, he, by omega⟩

set_option maxRecDepth 100000 in
set_option maxHeartbeats 4000000 in
theorem law7_of (s : ByteArray) (w : World) (SC : Calls Tryd.prog 32 #[.string s] w fun e w' => RdPost2 s w e w') (hg : w.cell? ⟨0, 0, none⟩ = some (.iface 203 (hdl 96))) :
    Calls Tryd.prog 7 #[.string s] w fun e w' => e = .returned (.bool true) ∧ Below w.heap.size w w' := by
  by_cases h : 1048576 < s.size
  · have h' : (1048576 : Int) < (s.size : Int) := by omega
    clear hg SC
    go_enter Tryd.func7, Tryd.ntmps7
    go_wp2
    go_ret
    exact ⟨rfl, Below.refl _ _⟩
  have h' : ¬ (1048576 : Int) < (s.size : Int) := by omega
  have h0 : 0 < w.heap.size := by
    rcases Nat.eq_zero_or_pos w.heap.size with h0 | h
    · simp [World.cell?, h0] at hg
    · exact h
  have SP := Lib.hid SC
  have IM : Hid (∀ w1, Below w.heap.size w w1 → Calls Tryd.prog 33 #[.string s] w1 fun e w' => RdPost2 s w1 e w') := fun w1 hb => icn_any s w1 ((hb.cell (p := ⟨0, 0, none⟩) h0).trans hg)
  have RF := Lib.hid (fun (w1 : World) (e : Ending) (w' : World) (h : RdPost2 s w1 e w') => Rd2_form h)
  clear hg h SC
  generalize ((outS s).2.2.1 : Nat) = ln at *
  generalize (outS s).1 = vr at *
  generalize (outS s).2.2.2 = cd at *
  generalize (outS s).2.1 = R at *
  go_enter Tryd.func7, Tryd.ntmps7
  go_wp2_with fail
  refine SP.out.mono ?_
  intro e w1 hp1
  obtain ⟨slW, cW, csW, rfl, hbW, oW, b1, hlW, heW, htW⟩ := RF.out _ _ _ hp1
  obtain ⟨slW', cW', eW, clW⟩ := oW.cls
  cases eW
  have hB : (w1.alloc (O29w vr slW csW.length cW (ln : Int) cd)).heap.size = w1.heap.size + 1 := by simp
  have CW := Lib.hid (clW.below (bA0 w1 (O29w vr slW csW.length cW (ln : Int) cd)))
  have ZW := Lib.hid (new_at w1 (O29w vr slW csW.length cW (ln : Int) cd))
  have BW : Hid (Below w.heap.size w (w1.alloc (O29w vr slW csW.length cW (ln : Int) cd))) := bA b1 _
  clear hp1 oW b1 clW SP
  generalize hWB : w1.alloc (O29w vr slW csW.length cW (ln : Int) cd) = WB at *
  have EQ : Hid (∀ (W : World) (sl : Option Addr) (cap : Nat) (cs : List LCl), Below WB.heap.size WB W → bareC cs = R → cs.length ≤ 4000 → Cls W sl cs → Calls Tryd.prog 34 #[COw vr sl cs.length cap (ln : Int) cd, COw vr slW csW.length cW (ln : Int) cd] W fun e w' => e = .returned (.bool true) ∧ Below W.heap.size W w') := fun W sl cap cs hb hr hl hc => eqOV_any vr sl slW cap cW cs csW (ln : Int) cd W (by omega) (hr.trans hbW.symm) hc (CW.out.below hb)
  clear CW hlW heW htW hbW
  generalize csW.length = nW at *
  go_wp2_with fail
  refine (IM.out _ BW.out).mono ?_
  intro e w2 hp2
  obtain ⟨slG, cG, csG, rfl, hbG, oG, b2, hlG, heG, htG⟩ := RF.out _ _ _ hp2
  obtain ⟨slG', cG', eG, clG⟩ := oG.cls
  cases eG
  have hw2 : WB.heap.size ≤ w2.heap.size := b2.size
  have ZG := Lib.hid (new_at w2 (O29w vr slG csG.length cG (ln : Int) cd))
  have B2 : Hid (Below WB.heap.size WB (w2.alloc (O29w vr slG csG.length cG (ln : Int) cd))) := bA b2 _
  have OG := Lib.hid (oG.below (bA0 w2 (O29w vr slG csG.length cG (ln : Int) cd)))
  have E2 := Lib.hid (EQ.out _ slG cG csG B2.out hbG hlG (clG.below (bA0 w2 (O29w vr slG csG.length cG (ln : Int) cd))))
  have hz2 : (w2.alloc (O29w vr slG csG.length cG (ln : Int) cd)).heap.size = w2.heap.size + 1 := by simp
  have MK : Hid (∀ W, WB.heap.size ≤ W.heap.size → OwC W WB.heap.size (.slice slG csG.length cG) csG → Calls Tryd.prog 35 #[COw vr slG csG.length cG (ln : Int) cd, .int .i64 1] W fun e w' => e = .returned (.int .i64 (1 + (totC csG : Int))) ∧ OwC w' WB.heap.size (.slice slG csG.length cG) (mkC 1 csG) ∧ Below WB.heap.size W w' ∧ K30 W w') := fun W hW hO => mkOV_any vr WB.heap.size slG csG.length cG (ln : Int) cd csG W (by omega) (fun r hr => by have := heG r hr; omega) (by omega) hW hO
  have HD : Hid (∀ W, OwC W WB.heap.size (.slice slG csG.length cG) (mkC 1 csG) → Calls Tryd.prog 36 #[COw vr slG csG.length cG (ln : Int) cd, .int .i64 1] W fun e w' => e = .returned (.int .i64 (1 + (totC csG : Int))) ∧ Below W.heap.size W w') := fun W hO => hdOV_any vr WB.heap.size slG csG.length cG (ln : Int) cd csG W (by omega) (fun r hr => by have := heG r hr; omega) (by omega) hO
  have hq : ¬ (1 + (totC csG : Int)) < 0 := by omega
  have hq2 : ((1 + (totC csG : Int)) != (1 + (totC csG : Int))) = false := by simp
  clear hp2 oG clG b2 heG htG hlG hbG
  generalize mkC 1 csG = mG at *
  generalize totC csG = tG at *
  generalize csG.length = nG at *
  generalize hX2 : w2.alloc (O29w vr slG nG cG (ln : Int) cd) = X2 at *
  have YW := (B2.out.block w1.heap.size (by omega)).trans ZW.out
  obtain ⟨c0, c1, c2, c3, -, -⟩ := cells4 YW
  obtain ⟨d0, d1, d2, d3, -, -⟩ := cells4 ZG.out
  clear YW
  go_wp2_with fail
  refine E2.out.mono ?_
  rintro e w3 ⟨rfl, b3⟩
  have B3 := Lib.hid (bT B2.out b3)
  have ZG3 := Lib.hid ((b3.block w2.heap.size (by omega)).trans ZG.out)
  have OG3 := Lib.hid (OG.out.below b3)
  have hw3 : WB.heap.size ≤ w3.heap.size := B3.out.size
  clear E2 b3 B2 ZG OG c0 c1 c2 c3 d0 d1 d2 d3
  obtain ⟨d0, d1, d2, d3, -, -⟩ := cells4 ZG3.out
  go_wp2_with fail
  refine (MK.out _ hw3 OG3.out).mono ?_
  rintro e w4 ⟨rfl, o4, b4, k4⟩
  have B4 := Lib.hid (B3.out.trans b4)
  have ZG4 := Lib.hid (k4 _ _ ZG3.out)
  have OG4 := Lib.hid o4
  have hw4 : w3.heap.size ≤ w4.heap.size := b4.size
  clear o4 b4 k4 B3 ZG3 OG3 MK d0 d1 d2 d3
  obtain ⟨d0, d1, d2, d3, -, -⟩ := cells4 ZG4.out
  go_wp2_with fail
  refine (HD.out _ OG4.out).mono ?_
  rintro e w5 ⟨rfl, b5⟩
  have B5 := Lib.hid (bT B4.out b5)
  have ZG5 := Lib.hid ((b5.block w2.heap.size (Array.getElem?_eq_some_iff.1 ZG4.out).1).trans ZG4.out)
  have OG5 := Lib.hid (OG4.out.below b5)
  have hw5 : w4.heap.size ≤ w5.heap.size := b5.size
  have hw : w.heap.size ≤ WB.heap.size := BW.out.size
  have BW5 := Lib.hid (BW.out.trans (B5.out.mono hw))
  clear b5 B4 ZG4 OG4 d0 d1 d2 d3
  go_wp2_with fail
  refine (IM.out _ BW5.out).mono ?_
  intro e w6 hp6
  obtain ⟨slH, cH, csH, rfl, hbH, oH, b6, hlH, heH, htH⟩ := RF.out _ _ _ hp6
  obtain ⟨slH', cH', eH, clH⟩ := oH.cls
  cases eH
  have B6 : Hid (Below WB.heap.size WB (w6.alloc (O29w vr slH csH.length cH (ln : Int) cd))) := bA (bT B5.out b6) _
  have ZH := Lib.hid (new_at w6 (O29w vr slH csH.length cH (ln : Int) cd))
  have ZG6 : Hid ((w6.alloc (O29w vr slH csH.length cH (ln : Int) cd)).heap[w2.heap.size]? = some (O29w vr slG nG cG (ln : Int) cd)) := ((bA b6 _).block w2.heap.size (Array.getElem?_eq_some_iff.1 ZG5.out).1).trans ZG5.out
  have OG6 := Lib.hid ((OG5.out.below b6).below (bA0 w6 (O29w vr slH csH.length cH (ln : Int) cd)))
  have E6 := Lib.hid (EQ.out _ slH cH csH B6.out hbH hlH (clH.below (bA0 w6 (O29w vr slH csH.length cH (ln : Int) cd))))
  clear hp6 oH clH b6 heH htH hlH hbH B5 ZG5 OG5
  generalize csH.length = nH at *
  generalize hX6 : w6.alloc (O29w vr slH nH cH (ln : Int) cd) = X6 at *
  have YW := (B6.out.block w1.heap.size (by omega)).trans ZW.out
  obtain ⟨c0, c1, c2, c3, -, -⟩ := cells4 YW
  obtain ⟨d0, d1, d2, d3, -, -⟩ := cells4 ZH.out
  clear YW
  go_wp2_with fail
  refine E6.out.mono ?_
  rintro e w7 ⟨rfl, b7⟩
  have B7 := Lib.hid (bT B6.out b7)
  have ZG7 := Lib.hid ((b7.block w2.heap.size (Array.getElem?_eq_some_iff.1 ZG6.out).1).trans ZG6.out)
  have OG7 := Lib.hid (OG6.out.below b7)
  clear E6 b7 B6 ZG6 OG6 ZH c0 c1 c2 c3 d0 d1 d2 d3
  obtain ⟨d0, d1, d2, d3, -, -⟩ := cells4 ZG7.out
  go_wp2_with fail
  refine (HD.out _ OG7.out).mono ?_
  rintro e w8 ⟨rfl, b8⟩
  have B8 := Lib.hid (BW.out.trans ((bT B7.out b8).mono hw))
  clear b8 B7 ZG7 OG7 d0 d1 d2 d3
  go_wp2
  go_ret
  exact ⟨rfl, B8.out⟩

end Go.Proofs.YtoncpiaboceefaaDoor
