/-
  THE LAW OF LemmaRight: the walk.
-/
import Derived.Test.YtoobcodlgajieaaDoorUaf
import Derived.Test.YtoobcodlgajieaaDoorJd
namespace Go.Proofs.YtoobcodlgajieaaDoor
open Go.RowKit
set_option linter.unusedVariables false

set_option maxRecDepth 100000 in
set_option maxHeartbeats 4000000 in
theorem law8 (vars : Int) (sl : Option Addr) (cap : Nat) (cs : List LCl) (sl2 : Option Addr) (cap2 : Nat) (ds : List LCl) (sl3 : Option Addr) (cap3 : Nat) (l3 : List Int) (w : World) (h : InC w sl cs) (h2 : InC w sl2 ds) (hl3 : l3.length ≤ maxLen) (h3 : Ints w sl3 l3) (hb3 : ∀ z ∈ l3, -9223372036854775808 ≤ z ∧ z ≤ 9223372036854775807) (hT : TabB w) :
    Calls Tryd.prog 8 #[CV vars sl cs.length cap, .slice sl2 ds.length cap2, .slice sl3 l3.length cap3] w fun e w' => e = .returned (.bool true) ∧ Below w.heap.size w w' := by
  have hm3 := hl3
  have hln := h.ln
  have hln2 := h2.ln
  unfold maxLen at hm3 hln hln2
  by_cases hz3 : 1048576 < l3.length
  · have hz3' : (1048576 : Int) < (l3.length : Int) := by omega
    clear h h3 h2
    generalize cs.length = n at *
    generalize ds.length = m at *
    generalize l3.length = q at *
    go_enter Tryd.func8, Tryd.ntmps8
    go_wp2
    go_ret
    exact ⟨rfl, bA0 _ _⟩
  have hz3' : ¬ (1048576 : Int) < (l3.length : Int) := by omega
  have hz3 : l3.length ≤ 1048576 := by omega
  have B0 := Lib.hid (bA0 w (.cells #[.int .i64 vars, .slice sl cs.length cap] 45))
  have SZ : Hid (∀ W, Below w.heap.size w W → Calls Tryd.prog 23 #[CV vars sl cs.length cap, .int .i64 1048576] W fun e w' => e = .returned (.int .i64 (lft 1048576 (cs.length + totC cs))) ∧ Below W.heap.size W w') := fun W hW => szC_any vars sl cap cs W h.ln (h.cl.below hW)
  rcases lft_cases 1048576 (cs.length + totC cs) (by omega) with ⟨e, hl⟩ | ⟨e, hl⟩
  · rw [e] at SZ
    clear h h3 h2 e hl
    generalize cs.length = n at *
    generalize ds.length = m at *
    generalize l3.length = q at *
    go_enter Tryd.func8, Tryd.ntmps8
    go_wp2_with fail
    refine (SZ.out _ B0.out).mono ?_
    rintro e w1 ⟨rfl, b1⟩
    have D1 := Lib.hid (bT B0.out b1)
    clear b1
    go_wp2
    go_ret
    exact ⟨rfl, D1.out⟩
  rw [e] at SZ
  have hneg : ¬ ((1048576 : Int) - ((cs.length + totC cs : Nat) : Int)) < 0 := by omega
  have SY : Hid (∀ W, Below w.heap.size w W → Calls Tryd.prog 24 #[.slice sl2 ds.length cap2, .int .i64 ((1048576 : Int) - ((cs.length + totC cs : Nat) : Int))] W fun e w' => e = .returned (.int .i64 (lft ((1048576 : Int) - ((cs.length + totC cs : Nat) : Int)) (ds.length + totC ds))) ∧ Below W.heap.size W w') := fun W hW => szL_any sl2 cap2 ds _ W h2.ln (by omega) (by omega) (h2.cl.below hW)
  rcases lft_cases ((1048576 : Int) - ((cs.length + totC cs : Nat) : Int)) (ds.length + totC ds) (by omega) with ⟨e', hl'⟩ | ⟨e', hl'⟩
  · rw [e'] at SY
    clear h h3 h2 e hl e' hl'
    generalize (1048576 : Int) - ((cs.length + totC cs : Nat) : Int) = z at *
    generalize cs.length = n at *
    generalize ds.length = m at *
    generalize l3.length = q at *
    go_enter Tryd.func8, Tryd.ntmps8
    go_wp2_with fail
    refine (SZ.out _ B0.out).mono ?_
    rintro e w1 ⟨rfl, b1⟩
    have D1 := Lib.hid (bT B0.out b1)
    clear b1
    go_wp2_with fail
    refine (SY.out _ D1.out).mono ?_
    rintro e w2 ⟨rfl, b2⟩
    have D2 := Lib.hid (bT D1.out b2)
    clear b2
    go_wp2
    go_ret
    exact ⟨rfl, D2.out⟩
  rw [e'] at SY
  have hneg2 : ¬ ((1048576 : Int) - ((cs.length + totC cs : Nat) : Int)) - ((ds.length + totC ds : Nat) : Int) < 0 := by omega
  have TC : Hid (∀ W, Below w.heap.size w W → Calls Tryd.prog 25 #[CV vars sl cs.length cap] W fun e w' => ∃ b cs', e = .returned (CV vars (some ⟨b, 0, none⟩) cs.length cs.length) ∧ bareC cs' = bareC cs ∧ CnO W.heap.size w' b cs' ∧ Below W.heap.size W w') := fun W hW => toCO_any vars sl cap cs W (by omega) (by omega) (h.cl.below hW)
  have TL : Hid (∀ W, Below w.heap.size w W → Calls Tryd.prog 26 #[.slice sl2 ds.length cap2] W fun e w' => ∃ ds', e = .returned (.slice (some ⟨W.heap.size, 0, none⟩) ds.length ds.length) ∧ bareC ds' = bareC ds ∧ CnO W.heap.size w' W.heap.size ds' ∧ Below W.heap.size W w') := fun W hW => by
    refine (toLO_any sl2 cap2 ds W (by omega) (by omega) (h2.cl.below hW)).mono ?_
    rintro e w' ⟨ds', rfl, eb, r, d, b⟩
    exact ⟨ds', rfl, eb, ⟨by rw [bareC_len eb]; exact r, d, Nat.le_refl _⟩, b⟩
  have TP : Hid (∀ W, Below w.heap.size w W → Calls Tryd.prog 27 #[.slice sl3 l3.length cap3] W fun e w' => e = .returned (.slice (some ⟨W.heap.size, 0, none⟩) l3.length l3.length) ∧ RowZ w' W.heap.size l3 ∧ Below W.heap.size W w') := fun W hW => toO_any sl3 cap3 l3 W hz3 (h3.below hW)
  have SP : Hid (∀ b cs' d ds' c W, bareC cs' = bareC cs → bareC ds' = bareC ds → Cls W (some ⟨b, 0, none⟩) cs' → Cls W (some ⟨d, 0, none⟩) ds' → RowZ W c l3 → Calls Tryd.prog 42 #[CV vars (some ⟨b, 0, none⟩) cs.length cs.length, .slice (some ⟨d, 0, none⟩) ds.length ds.length, .slice (some ⟨c, 0, none⟩) l3.length l3.length] W fun e w' => e = .returned (.bool (B (LmOk vars (bareC cs) (bareC ds) l3))) ∧ Below W.heap.size W w') := fun b cs' d ds' c W e1 e2 c1 c2 r => by
    have := slm_any vars (some ⟨b, 0, none⟩) cs.length cs' (some ⟨d, 0, none⟩) ds.length ds' (some ⟨c, 0, none⟩) l3.length l3 W (by rw [bareC_len e1]; exact h.ln) (by rw [bareC_len e2]; exact h2.ln) hz3 (by rw [totC_bare e1]; omega) (by rw [totC_bare e2]; omega) (h.wf.bare e1) c1 c2 r.ints hb3
    rwa [bareC_len e1, bareC_len e2, e1, e2] at this
  have IM : Hid (∀ b cs' d ds' c W, bareC cs' = bareC cs → bareC ds' = bareC ds → Cls W (some ⟨b, 0, none⟩) cs' → Cls W (some ⟨d, 0, none⟩) ds' → RowZ W c l3 → Below w.heap.size w W → Calls Tryd.prog 43 #[CV vars (some ⟨b, 0, none⟩) cs.length cs.length, .slice (some ⟨d, 0, none⟩) ds.length ds.length, .slice (some ⟨c, 0, none⟩) l3.length l3.length] W fun e w' => e = .returned (.bool (B (LmOk vars (bareC cs) (bareC ds) l3))) ∧ Below W.heap.size W w') := fun b cs' d ds' c W e1 e2 c1 c2 r hbw => by
    have := ilm_any vars (some ⟨b, 0, none⟩) cs.length cs' (some ⟨d, 0, none⟩) ds.length ds' (some ⟨c, 0, none⟩) l3.length l3 W (by rw [bareC_len e1]; exact h.ln) (by rw [bareC_len e2]; exact h2.ln) hl3 (h.wf.bare e1) c1 c2 r.ints hb3 (hT.belowT hbw)
    rwa [bareC_len e1, bareC_len e2, e1, e2] at this
  have EC : Hid (∀ b2 cs2 b3 cs3 W, bareC cs2 = bareC cs → bareC cs3 = bareC cs → Cls W (some ⟨b2, 0, none⟩) cs2 → Cls W (some ⟨b3, 0, none⟩) cs3 → Calls Tryd.prog 29 #[CV vars (some ⟨b2, 0, none⟩) cs.length cs.length, CV vars (some ⟨b3, 0, none⟩) cs.length cs.length] W fun e w' => e = .returned (.bool true) ∧ Below W.heap.size W w') := fun b2 cs2 b3 cs3 W e2 e3 c2 c3 => by
    have := eqC_any vars (some ⟨b2, 0, none⟩) (some ⟨b3, 0, none⟩) cs.length cs.length cs2 cs3 W (by rw [bareC_len e2]; omega) (e2.trans e3.symm) c2 c3
    rwa [bareC_len e2, bareC_len e3] at this
  have EL : Hid (∀ b2 ds2 b3 ds3 W, bareC ds2 = bareC ds → bareC ds3 = bareC ds → Cls W (some ⟨b2, 0, none⟩) ds2 → Cls W (some ⟨b3, 0, none⟩) ds3 → Calls Tryd.prog 30 #[.slice (some ⟨b2, 0, none⟩) ds.length ds.length, .slice (some ⟨b3, 0, none⟩) ds.length ds.length] W fun e w' => e = .returned (.bool true) ∧ Below W.heap.size W w') := fun b2 ds2 b3 ds3 W e2 e3 c2 c3 => by
    have := eqL_any (some ⟨b2, 0, none⟩) (some ⟨b3, 0, none⟩) ds.length ds.length ds2 ds3 W (by rw [bareC_len e2]; omega) (e2.trans e3.symm) c2 c3
    rwa [bareC_len e2, bareC_len e3] at this
  have EZ : Hid (∀ b c W, RowZ W b l3 → RowZ W c l3 → Calls Tryd.prog 31 #[.slice (some ⟨b, 0, none⟩) l3.length l3.length, .slice (some ⟨c, 0, none⟩) l3.length l3.length] W fun e w' => e = .returned (.bool true) ∧ Below W.heap.size W w') := fun b c W r1 r2 => eq_any _ _ _ _ l3 W hl3 r1.ints r2.ints
  clear h h2 e hl e' hl' h3 hl3 hb3 hT
  generalize B (LmOk vars (bareC cs) (bareC ds) l3) = r at *
  generalize (1048576 : Int) - ((cs.length + totC cs : Nat) : Int) - ((ds.length + totC ds : Nat) : Int) = z2 at *
  generalize (1048576 : Int) - ((cs.length + totC cs : Nat) : Int) = z at *
  generalize cs.length = n at *
  generalize ds.length = m at *
  generalize l3.length = u at *
  have hrr : (r != r) = false := by simp
  have A0 : Hid (LA w vars sl n cap (w.alloc (.cells #[.int .i64 vars, .slice sl n cap] 45))) := ⟨B0.out, new_at _ _⟩
  clear B0
  go_enter Tryd.func8, Tryd.ntmps8
  go_wp2_with fail
  generalize w.alloc (.cells #[.int .i64 vars, .slice sl n cap] 45) = wA at *
  refine (SZ.out _ A0.out.bel).mono ?_
  rintro e w1 ⟨rfl, b1⟩
  have A1 := Lib.hid (A0.out.below b1)
  clear b1 SZ A0
  go_wp2_with fail
  refine (SY.out _ A1.out.bel).mono ?_
  rintro e w1b ⟨rfl, b1⟩
  have A1b := Lib.hid (A1.out.below b1)
  clear b1 SY A1
  obtain ⟨tl, t0, t1⟩ := A1b.out.cells
  go_wp2_with fail
  refine (TC.out _ A1b.out.bel).mono ?_
  rintro e w2 ⟨b1, cs1, rfl, e1, o1, bl2⟩
  have A2 := Lib.hid (A1b.out.below bl2)
  have O2 := Lib.hid o1.cls
  have E1 := Lib.hid e1
  clear o1 e1 bl2 A1b tl t0 t1
  go_wp2_with fail
  refine (TL.out _ A2.out.bel).mono ?_
  rintro e w2b ⟨ds1, rfl, e1, o1, bl2⟩
  have A2b := Lib.hid (A2.out.below bl2)
  have O2b := Lib.hid (O2.out.below bl2)
  have Q2b := Lib.hid o1.cls
  have E1b := Lib.hid e1
  clear o1 e1 bl2 A2 O2
  go_wp2_with fail
  refine (TP.out _ A2b.out.bel).mono ?_
  rintro e w2c ⟨rfl, r2, bl2⟩
  have A2c := Lib.hid (A2b.out.below bl2)
  have T2 := Lib.hid (SP.out b1 cs1 _ ds1 _ w2c E1.out E1b.out (O2b.out.below bl2) (Q2b.out.below bl2) r2)
  clear r2 bl2 A2b O2b Q2b E1 E1b SP
  go_wp2_with fail
  refine T2.out.mono ?_
  rintro e w3 ⟨rfl, bl3⟩
  have A3 := Lib.hid (A2c.out.below bl3)
  clear bl3 T2 A2c
  obtain ⟨tl, t0, t1⟩ := A3.out.cells
  have hA3 := tl
  go_wp2_with fail
  refine (TC.out _ A3.out.bel).mono ?_
  rintro e w4 ⟨c1, cs2, rfl, e2, o2, bl4⟩
  have hs4 := bl4.size
  have F4 := Lib.hid (bA0 w4 (.cells #[.int .i64 vars, .slice (some ⟨c1, 0, none⟩) n n] 25))
  have A4 := Lib.hid ((A3.out.below bl4).below F4.out)
  have E4 := Lib.hid e2
  have O4 := Lib.hid (o2.below F4.out)
  have X4 := Lib.hid (CnfAt.new w4 vars (some ⟨c1, 0, none⟩) n n)
  have hw4 : w4.heap.size < (w4.alloc (.cells #[.int .i64 vars, .slice (some ⟨c1, 0, none⟩) n n] 25)).heap.size := by simp
  clear e2 o2 bl4 A3 tl t0 t1 F4
  go_wp2_with fail
  generalize w4.alloc (.cells #[.int .i64 vars, .slice (some ⟨c1, 0, none⟩) n n] 25) = w5 at *
  refine (TL.out _ A4.out.bel).mono ?_
  rintro e w6 ⟨ds2, rfl, e2, o2, bl6⟩
  have hs6 := bl6.size
  have A6 := Lib.hid (A4.out.below bl6)
  have O6 := Lib.hid (O4.out.below bl6)
  have X6 := Lib.hid (X4.out.below bl6)
  have E6 := Lib.hid e2
  have P6 := Lib.hid o2
  clear e2 o2 bl6 A4 O4 X4
  go_wp2_with fail
  refine (TP.out _ A6.out.bel).mono ?_
  rintro e w7 ⟨rfl, r7, bl7⟩
  have hs7 := r7.lt
  have A7 := Lib.hid (A6.out.below bl7)
  have X7 : Hid (LX vars n w4.heap.size w3.heap.size c1 cs2 w5.heap.size w5.heap.size ds2 w6.heap.size l3 w7) := ⟨X6.out.below bl7, O6.out.below bl7, P6.out.below bl7, r7⟩
  clear r7 bl7 A6 O6 X6 P6
  have T7 := Lib.hid (IM.out c1 cs2 _ ds2 _ w7 E4.out E6.out X7.out.x0.cls X7.out.x1.cls X7.out.x2 A7.out.bel)
  obtain ⟨x0, x1⟩ := X7.out.box.cells
  have xl := X7.out.box.lt
  go_wp2_with fail
  refine T7.out.mono ?_
  rintro e w8 ⟨rfl, bl8⟩
  have hs8 := bl8.size
  have A9 := Lib.hid (A7.out.below bl8)
  have D9 := Lib.hid A9.out.bel
  have X9 : Hid (∀ W, Below w8.heap.size w8 W → LX vars n w4.heap.size w3.heap.size c1 cs2 w5.heap.size w5.heap.size ds2 w6.heap.size l3 W) := fun W hW => (X7.out.below bl8).below hW
  clear bl8 T7 A7 X7 x0 x1 xl
  have KX : Hid (∀ W, Below w8.heap.size w8 W → w.heap.size < W.heap.size ∧ w4.heap.size < W.heap.size ∧ W.cell? ⟨w.heap.size, 0, none⟩ = some (.int .i64 vars) ∧ W.cell? ⟨w.heap.size, 1, none⟩ = some (.slice sl n cap) ∧ W.cell? ⟨w4.heap.size, 0, none⟩ = some (.int .i64 vars) ∧ W.cell? ⟨w4.heap.size, 1, none⟩ = some (.slice (some ⟨c1, 0, none⟩) n n)) := fun W hW => by
    obtain ⟨k1, k2, k3⟩ := (A9.out.below hW).cells
    obtain ⟨k4, k5⟩ := (X9.out W hW).box.cells
    exact ⟨k1, (X9.out W hW).box.lt, k2, k3, k4, k5⟩
  go_wp2_with fail
  refine wp_region_held_drew (S := fun W => w.heap.size < W.heap.size ∧ w4.heap.size < W.heap.size ∧ W.cell? ⟨w.heap.size, 0, none⟩ = some (.int .i64 vars) ∧ W.cell? ⟨w.heap.size, 1, none⟩ = some (.slice sl n cap) ∧ W.cell? ⟨w4.heap.size, 0, none⟩ = some (.int .i64 vars) ∧ W.cell? ⟨w4.heap.size, 1, none⟩ = some (.slice (some ⟨c1, 0, none⟩) n n)) (by kernel_rfl) ?_ (fun hHeld => ?_)
  · exact KX.out _ (Below.refl _ _).drew
  refine wpAnyH_take (i := 0) (oi := _) (v := ?_) rfl (by kernel_rfl) (by kernel_rfl) (by kernel_rfl) (fun _ _ _ h => h) (Or.inl ⟨by rfl, ?_⟩) (by assumption) ?_
  rotate_left
  · first | (intro w hSw; (try dsimp only at hSw); go_simp; done) | (intro w hSw; (try dsimp only at hSw); go_simp; with_reducible rfl)
  try simp only [Act.put, List.setIfInBounds_toArray, List.set_cons_zero, List.set_cons_succ, List.getElem_toArray, List.getElem_cons_zero]
  refine wpAnyH_take (i := 1) (oi := _) (v := ?_) rfl (by kernel_rfl) (by kernel_rfl) (by kernel_rfl) (fun _ _ _ h => h) (Or.inl ⟨by rfl, ?_⟩) (by assumption) ?_
  rotate_left
  · first | (intro w hSw; (try dsimp only at hSw); go_simp; done) | (intro w hSw; (try dsimp only at hSw); go_simp; with_reducible rfl)
  try simp only [Act.put, List.setIfInBounds_toArray, List.set_cons_zero, List.set_cons_succ, List.getElem_toArray, List.getElem_cons_succ, List.getElem_cons_zero]
  refine wpAnyH_ready (rs := [2]) (by kernel_rfl) (by simp) ?_
  refine AllReadyH.cons rfl (fun K hK => ?_) AllReadyH.nil
  go_simp
  go_wp2_with (go_at_call 25; refine (TC.out _ D9.out.drew).mono ?_; rintro e w10 ⟨d1, cs3, rfl, e3, o3, b10⟩)
  have F10 : Hid (Below w8.heap.size w8 w10) := bT ((Below.refl w8.heap.size w8).drew) b10
  have O10 := Lib.hid o3.cls
  have E10 := Lib.hid e3
  clear b10 o3 e3
  refine hK.out _ _ ?_ (fun hHeld => ?_)
  · exact KX.out _ F10.out
  clear hK K
  refine wpAnyH_ready (rs := [3]) (by kernel_rfl) (by simp) ?_
  refine AllReadyH.cons rfl (fun K hK => ?_) AllReadyH.nil
  go_simp
  go_wp2_with (go_at_call 29; refine (EC.out c1 cs2 d1 cs3 _ E4.out E10.out (((X9.out _ F10.out).x0).cls) O10.out).mono ?_; rintro e w11 ⟨rfl, b11⟩)
  have F11 : Hid (Below w8.heap.size w8 w11) := bT F10.out b11
  clear b11
  refine hK.out _ _ ?_ (fun hHeld => ?_)
  · exact KX.out _ F11.out
  clear hK K
  refine wpAnyH_take (i := 4) (oi := _) (v := ?_) rfl (by kernel_rfl) (by kernel_rfl) (by kernel_rfl) (fun _ _ _ h => h) (Or.inl ⟨by rfl, ?_⟩) (by assumption) ?_
  rotate_left
  · first | (intro w hSw; (try dsimp only at hSw); go_simp; done) | (intro w hSw; (try dsimp only at hSw); go_simp; with_reducible rfl)
  try simp only [Act.put, List.setIfInBounds_toArray, List.set_cons_zero, List.set_cons_succ, List.getElem_toArray, List.getElem_cons_succ, List.getElem_cons_zero]
  refine wpAnyH_done (by kernel_rfl) ?_ _
  have A11 := Lib.hid (A9.out.below F11.out)
  have X11 : Hid (∀ W, Below w11.heap.size w11 W → LX vars n w4.heap.size w3.heap.size c1 cs2 w5.heap.size w5.heap.size ds2 w6.heap.size l3 W) := fun W hW => X9.out W (bT F11.out hW)
  clear F10 F11 O10 E10 KX A9 D9 X9 EC
  go_wp2_with fail
  refine (TL.out _ A11.out.bel).mono ?_
  rintro e w12 ⟨ds3, rfl, e3, o3, bl12⟩
  have F12 := Lib.hid bl12
  have T12 := Lib.hid (EL.out _ ds2 _ ds3 w12 E6.out e3 (X11.out _ bl12).x1.cls o3.cls)
  clear e3 o3 bl12
  go_wp2_with fail
  refine T12.out.mono ?_
  rintro e w13 ⟨rfl, bl13⟩
  have F13 := Lib.hid (bT F12.out bl13)
  have A13 := Lib.hid (A11.out.below F13.out)
  clear bl13 F12 T12 EL
  go_wp2_with fail
  refine (TP.out _ A13.out.bel).mono ?_
  rintro e w14 ⟨rfl, r14, bl14⟩
  have A14 := Lib.hid (A13.out.below bl14)
  have T14 := Lib.hid (EZ.out _ _ w14 (X11.out _ (bT F13.out bl14)).x2 r14)
  clear r14 bl14 A13 F13
  go_wp2_with fail
  refine T14.out.mono ?_
  rintro e w15 ⟨rfl, bl15⟩
  have A15 := Lib.hid (A14.out.below bl15)
  clear bl15 T14
  go_wp2
  go_ret
  exact ⟨rfl, A15.out.bel⟩

end Go.Proofs.YtoobcodlgajieaaDoor
