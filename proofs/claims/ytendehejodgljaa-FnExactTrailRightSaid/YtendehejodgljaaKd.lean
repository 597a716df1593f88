/-
  THE LAW 5: the walk.
-/
import Derived.Test.YtendehejodgljaaKc
import Derived.Test.YtendehejodgljaaQg
namespace Go.Proofs.Ytendehejodgljaa
open Go.RowKit
set_option linter.unusedVariables false

set_option maxRecDepth 100000 in
set_option maxHeartbeats 2000000 in
theorem law5 (vars : Int) (sl : Option Addr) (cap : Nat) (cs : List LCl) (sl3 : Option Addr) (cap3 : Nat) (l3 : List Int) (w : World) (h : InC w sl cs) (hl3 : l3.length ≤ maxLen) (h3 : Ints w sl3 l3) :
    Calls Try.prog 5 #[CV vars sl cs.length cap, .slice sl3 l3.length cap3] w fun e w' => e = .returned (.bool true) ∧ Below w.heap.size w w' := by
  have hm3 := hl3
  have hln := h.ln
  unfold maxLen at hm3 hln
  by_cases hz3 : 1048576 < l3.length
  · have hz3' : (1048576 : Int) < (l3.length : Int) := by omega
    clear h h3
    generalize cs.length = n at *
    generalize l3.length = q at *
    go_enter Try.func5, Try.ntmps5
    go_wp2
    go_ret
    exact ⟨rfl, bA0 _ _⟩
  have hz3' : ¬ (1048576 : Int) < (l3.length : Int) := by omega
  have hz3 : l3.length ≤ 1048576 := by omega
  have SZ : Hid (∀ W, Below w.heap.size w W → Calls Try.prog 15 #[CV vars sl cs.length cap, .int .i64 1048576] W fun e w' => e = .returned (.int .i64 (lft 1048576 (cs.length + totC cs))) ∧ Below W.heap.size W w') := fun W hW => szC_any vars sl cap cs W h.ln (h.cl.below hW)
  rcases lft_cases 1048576 (cs.length + totC cs) (by omega) with ⟨e, hl⟩ | ⟨e, hl⟩
  · rw [e] at SZ
    clear h h3 e hl
    generalize cs.length = n at *
    generalize l3.length = q at *
    go_enter Try.func5, Try.ntmps5
    go_wp2_with fail
    refine (SZ.out _ (bA0 _ _)).mono ?_
    rintro e w1 ⟨rfl, b1⟩
    have D1 := Lib.hid (bT (bA0 w _) b1)
    clear b1
    go_wp2
    go_ret
    exact ⟨rfl, D1.out⟩
  · rw [e] at SZ
    have TO : Hid (∀ W, Below w.heap.size w W → Calls Try.prog 17 #[CV vars sl cs.length cap] W fun e w' => ∃ b cs', e = .returned (CV vars (some ⟨b, 0, none⟩) cs.length cs.length) ∧ bareC cs' = bareC cs ∧ Cls w' (some ⟨b, 0, none⟩) cs' ∧ Below W.heap.size W w') := fun W hW => toC_any vars sl cap cs W (by omega) (by omega) (h.cl.below hW)
    have TP : Hid (∀ W, Below w.heap.size w W → Calls Try.prog 19 #[.slice sl3 l3.length cap3] W fun e w' => e = .returned (.slice (some ⟨W.heap.size, 0, none⟩) l3.length l3.length) ∧ Ints w' (some ⟨W.heap.size, 0, none⟩) l3 ∧ Below W.heap.size W w') := fun W hW => to_any sl3 cap3 l3 W hz3 (h3.below hW)
    have EQ : Hid (∀ c d W, Ints W (some ⟨c, 0, none⟩) l3 → Ints W (some ⟨d, 0, none⟩) l3 → Calls Try.prog 23 #[.slice (some ⟨c, 0, none⟩) l3.length l3.length, .slice (some ⟨d, 0, none⟩) l3.length l3.length] W fun e w' => e = .returned (.bool true) ∧ Below W.heap.size W w') := fun c d W a b => eq_any _ _ _ _ l3 W hl3 a b
    have SP : Hid (∀ b cs' c W, bareC cs' = bareC cs → Cls W (some ⟨b, 0, none⟩) cs' → Ints W (some ⟨c, 0, none⟩) l3 → Calls Try.prog 29 #[CV vars (some ⟨b, 0, none⟩) cs.length cs.length, .slice (some ⟨c, 0, none⟩) l3.length l3.length] W fun e w' => e = .returned (.bool (B (TrR vars (bareC cs) l3))) ∧ Below W.heap.size W w') := fun b cs' c W eb s i => by
      have := str_any vars (some ⟨b, 0, none⟩) cs.length cs' (some ⟨c, 0, none⟩) l3.length l3 W (by rw [bareC_len eb]; unfold maxLen; omega) (by rw [totC_bare eb]; omega) (h.wf.bare eb) hz3 s i
      rwa [bareC_len eb, eb] at this
    have IM : Hid (∀ b cs' c W, bareC cs' = bareC cs → Cls W (some ⟨b, 0, none⟩) cs' → Ints W (some ⟨c, 0, none⟩) l3 → Calls Try.prog 12 #[CV vars (some ⟨b, 0, none⟩) cs.length cs.length, .slice (some ⟨c, 0, none⟩) l3.length l3.length] W fun e w' => e = .returned (.bool (B (TrR vars (bareC cs) l3))) ∧ Below W.heap.size W w') := fun b cs' c W eb s i => by
      have := itr_any vars (some ⟨b, 0, none⟩) cs.length cs' (some ⟨c, 0, none⟩) l3.length l3 W (by rw [bareC_len eb]; unfold maxLen; omega) hl3 s i
      rwa [bareC_len eb, eb] at this
    have TE : Hid (∀ b2 cs2 b3 cs3 W, bareC cs2 = bareC cs → bareC cs3 = bareC cs → Cls W (some ⟨b2, 0, none⟩) cs2 → Cls W (some ⟨b3, 0, none⟩) cs3 → Calls Try.prog 21 #[CV vars (some ⟨b2, 0, none⟩) cs.length cs.length, CV vars (some ⟨b3, 0, none⟩) cs.length cs.length] W fun e w' => e = .returned (.bool true) ∧ Below W.heap.size W w') := fun b2 cs2 b3 cs3 W e2 e3 c2 c3 => by
      have := eqC_any vars (some ⟨b2, 0, none⟩) (some ⟨b3, 0, none⟩) cs.length cs.length cs2 cs3 W (by rw [bareC_len e2]; omega) (e2.trans e3.symm) c2 c3
      rwa [bareC_len e2, bareC_len e3] at this
    have hneg : ¬ ((1048576 : Int) - ((cs.length + totC cs : Nat) : Int)) < 0 := by omega
    clear h e hl h3
    generalize (1048576 : Int) - ((cs.length + totC cs : Nat) : Int) = z at *
    generalize cs.length = n at *
    generalize l3.length = q at *
    generalize (B (TrR vars (bareC cs) l3)) = r at *
    have HT := Lib.hid (show (w.alloc (.cells #[.int .i64 vars, .slice sl n cap] 38)).heap[w.heap.size]? = some (.cells #[.int .i64 vars, .slice sl n cap] 38) from new_at _ _)
    have B0 := Lib.hid (bA0 w (.cells #[.int .i64 vars, .slice sl n cap] 38))
    have hw0 : (w.alloc (.cells #[.int .i64 vars, .slice sl n cap] 38)).heap.size = w.heap.size + 1 := by simp
    have KT : Hid (∀ W, Below (w.heap.size + 1) (w.alloc (.cells #[.int .i64 vars, .slice sl n cap] 38)) W → w.heap.size < W.heap.size ∧ W.cell? ⟨w.heap.size, 0, none⟩ = some (.int .i64 vars) ∧ W.cell? ⟨w.heap.size, 1, none⟩ = some (.slice sl n cap)) := fun W hW => by
      have := (hW.block w.heap.size (by omega)).trans HT.out
      exact ⟨(Array.getElem?_eq_some_iff.1 this).1, by simp [World.cell?, this], by simp [World.cell?, this]⟩
    have hrr : (r != r) = false := by simp
    go_enter Try.func5, Try.ntmps5
    go_wp2_with fail
    refine (SZ.out _ (bA0 _ _)).mono ?_
    rintro e w1 ⟨rfl, b1⟩
    generalize w.alloc (.cells #[.int .i64 vars, .slice sl n cap] 38) = wA at *
    have A1 : Hid (Below (w.heap.size + 1) wA w1) := by rw [← hw0]; exact b1
    have D1 := Lib.hid (bT B0.out b1)
    clear b1 SZ
    obtain ⟨tl, t0, t1⟩ := KT.out _ A1.out
    have hs1 := A1.out.size
    go_wp2_with fail
    refine (TO.out _ D1.out).mono ?_
    rintro e w2 ⟨b1, cs1, rfl, e1, s1, bl2⟩
    have D2 := Lib.hid (bT D1.out bl2)
    have A2 := Lib.hid (A1.out.trans (bl2.mono (by omega)))
    have S2 := Lib.hid s1
    have hs2 := A2.out.size
    clear s1 bl2 A1 D1 t0 t1 tl
    go_wp2_with fail
    refine (TP.out _ D2.out).mono ?_
    rintro e w2b ⟨rfl, i2, bl2⟩
    have D2b := Lib.hid (bT D2.out bl2)
    have A2b := Lib.hid (A2.out.trans (bl2.mono (by omega)))
    have T2 := Lib.hid (SP.out b1 cs1 _ w2b e1 (S2.out.below bl2) i2)
    have hs2b := A2b.out.size
    clear i2 bl2 e1 S2 A2 D2
    go_wp2_with fail
    refine T2.out.mono ?_
    rintro e w3 ⟨rfl, bl3⟩
    have D3 := Lib.hid (bT D2b.out bl3)
    have A3 := Lib.hid (A2b.out.trans (bl3.mono (by omega)))
    clear bl3 T2 A2b D2b
    obtain ⟨tl, t0, t1⟩ := KT.out _ A3.out
    have hs3 := A3.out.size
    go_wp2_with fail
    refine (TO.out _ D3.out).mono ?_
    rintro e w4 ⟨b2, cs2, rfl, e2, s2, bl4⟩
    have D4 := Lib.hid (bT D3.out bl4)
    have A4 := Lib.hid (A3.out.trans (bl4.mono (by omega)))
    have E2 := Lib.hid e2
    have S2 := Lib.hid (s2.below (bA0 _ (.cells #[.int .i64 vars, .slice (some ⟨b2, 0, none⟩) n n] 25)))
    have X2 := Lib.hid (CnfAt.new w4 vars (some ⟨b2, 0, none⟩) n n)
    have D5 := Lib.hid (bA D4.out (.cells #[.int .i64 vars, .slice (some ⟨b2, 0, none⟩) n n] 25))
    have hs4 := A4.out.size
    have A5 := Lib.hid (A4.out.trans ((bA0 w4 (.cells #[.int .i64 vars, .slice (some ⟨b2, 0, none⟩) n n] 25)).mono (by omega)))
    clear e2 s2 bl4 A3 D3 t0 t1 tl A4 D4
    go_wp2_with fail
    generalize w4.alloc (.cells #[.int .i64 vars, .slice (some ⟨b2, 0, none⟩) n n] 25) = w5 at *
    refine (TP.out _ D5.out).mono ?_
    rintro e w5b ⟨rfl, i5, bl5⟩
    have hs5 := A5.out.size
    have D5b := Lib.hid (bT D5.out bl5)
    have A5b := Lib.hid (A5.out.trans (bl5.mono (by omega)))
    have S5 := Lib.hid (S2.out.below bl5)
    have X5 := Lib.hid (X2.out.below bl5)
    have I5 := Lib.hid i5
    have hs5b := A5b.out.size
    clear i5 bl5 S2 X2 A5 D5
    obtain ⟨x0, x1⟩ := X5.out.cells
    have xl := X5.out.lt
    go_wp2_with fail
    refine (IM.out b2 cs2 _ w5b E2.out S5.out I5.out).mono ?_
    rintro e w6 ⟨rfl, bl6⟩
    have D6 := Lib.hid (bT D5b.out bl6)
    have A6 := Lib.hid (A5b.out.trans (bl6.mono (by omega)))
    have S6 := Lib.hid (S5.out.below bl6)
    have X6 := Lib.hid (X5.out.below bl6)
    have I6 := Lib.hid (I5.out.below bl6)
    clear bl6 S5 X5 A5b D5b IM SP x0 x1 xl I5
    have hw4 := X6.out.lt
    have hs6 := A6.out.size
    have KX : Hid (∀ W, Below w6.heap.size w6 W → w.heap.size < W.heap.size ∧ w4.heap.size < W.heap.size ∧ W.cell? ⟨w.heap.size, 0, none⟩ = some (.int .i64 vars) ∧ W.cell? ⟨w.heap.size, 1, none⟩ = some (.slice sl n cap) ∧ W.cell? ⟨w4.heap.size, 0, none⟩ = some (.int .i64 vars) ∧ W.cell? ⟨w4.heap.size, 1, none⟩ = some (.slice (some ⟨b2, 0, none⟩) n n)) := fun W hW => by
      obtain ⟨k1, k2, k3⟩ := KT.out W (A6.out.trans (hW.mono (by omega)))
      obtain ⟨k4, k5⟩ := (X6.out.below hW).cells
      exact ⟨k1, (X6.out.below hW).lt, k2, k3, k4, k5⟩
    go_wp2_with fail
    refine wp_region_held_drew (S := fun W => w.heap.size < W.heap.size ∧ w4.heap.size < W.heap.size ∧ W.cell? ⟨w.heap.size, 0, none⟩ = some (.int .i64 vars) ∧ W.cell? ⟨w.heap.size, 1, none⟩ = some (.slice sl n cap) ∧ W.cell? ⟨w4.heap.size, 0, none⟩ = some (.int .i64 vars) ∧ W.cell? ⟨w4.heap.size, 1, none⟩ = some (.slice (some ⟨b2, 0, none⟩) n n)) (by kernel_rfl) ?_ (fun hHeld => ?_)
    · exact KX.out _ (Below.refl _ _).drew
    refine wpAnyH_take (i := 0) (oi := _) (v := ?_) rfl (by kernel_rfl) (by kernel_rfl) (by kernel_rfl) (fun _ _ _ h => h) (Or.inl ⟨by rfl, ?_⟩) (by assumption) ?_
    rotate_left
    · first | (intro w hSw; (try dsimp only at hSw); go_simp; done) | (intro w hSw; (try dsimp only at hSw); go_simp; with_reducible rfl)
    try simp only [Act.put, List.setIfInBounds_toArray, List.set_cons_zero, List.set_cons_succ, List.getElem_toArray, List.getElem_cons_zero]
    refine wpAnyH_take (i := 1) (oi := _) (v := ?_) rfl (by kernel_rfl) (by kernel_rfl) (by kernel_rfl) (fun _ _ _ h => h) (Or.inl ⟨by rfl, ?_⟩) (by assumption) ?_
    rotate_left
    · first | (intro w hSw; (try dsimp only at hSw); go_simp; done) | (intro w hSw; (try dsimp only at hSw); go_simp; with_reducible rfl)
    try simp only [Act.put, List.setIfInBounds_toArray, List.set_cons_zero, List.set_cons_succ, List.getElem_toArray, List.getElem_cons_succ, List.getElem_cons_zero]
    refine wpAnyH_ready (rs := [2]) (by kernel_rfl) (by simp) ?_
    refine AllReadyH.cons rfl (fun K hK => ?_) AllReadyH.nil
    go_simp
    go_wp2_with (go_at_call 17; refine (TO.out _ D6.out.drew).mono ?_; rintro e w7 ⟨b3, cs3, rfl, e3, s3, bl7⟩)
    have D7 : Hid (Below w6.heap.size w6 w7) := bT ((Below.refl w6.heap.size w6).drew) bl7
    have S7 := Lib.hid s3
    have E7 := Lib.hid e3
    clear bl7 s3 e3
    refine hK.out _ _ ?_ (fun hHeld => ?_)
    · exact KX.out _ D7.out
    clear hK K
    refine wpAnyH_ready (rs := [3]) (by kernel_rfl) (by simp) ?_
    refine AllReadyH.cons rfl (fun K hK => ?_) AllReadyH.nil
    go_simp
    go_wp2_with (go_at_call 21; refine (TE.out b2 cs2 b3 cs3 _ E2.out E7.out (S6.out.below D7.out) S7.out).mono ?_; rintro e w8 ⟨rfl, bl8⟩)
    have D8 : Hid (Below w6.heap.size w6 w8) := bT D7.out bl8
    clear bl8
    refine hK.out _ _ ?_ (fun hHeld => ?_)
    · exact KX.out _ D8.out
    clear hK K
    refine wpAnyH_take (i := 4) (oi := _) (v := ?_) rfl (by kernel_rfl) (by kernel_rfl) (by kernel_rfl) (fun _ _ _ h => h) (Or.inl ⟨by rfl, ?_⟩) (by assumption) ?_
    rotate_left
    · first | (intro w hSw; (try dsimp only at hSw); go_simp; done) | (intro w hSw; (try dsimp only at hSw); go_simp; with_reducible rfl)
    try simp only [Act.put, List.setIfInBounds_toArray, List.set_cons_zero, List.set_cons_succ, List.getElem_toArray, List.getElem_cons_succ, List.getElem_cons_zero]
    refine wpAnyH_done (by kernel_rfl) ?_ _
    have D9 := Lib.hid (bT D6.out D8.out)
    have I9 := Lib.hid (I6.out.below D8.out)
    clear D8 D7 KX S7 E7 TE TO I6
    go_wp2_with fail
    refine (TP.out _ D9.out).mono ?_
    rintro e w10 ⟨rfl, i10, bl10⟩
    have D10 := Lib.hid (bT D9.out bl10)
    have T11 := Lib.hid (EQ.out _ _ w10 (I9.out.below bl10) i10)
    clear i10 bl10 D9 I9
    go_wp2_with fail
    refine T11.out.mono ?_
    rintro e w11 ⟨rfl, bl11⟩
    have D11 := Lib.hid (bT D10.out bl11)
    clear bl11 D10 T11
    go_wp2
    go_ret
    exact ⟨rfl, D11.out⟩

end Go.Proofs.Ytendehejodgljaa
