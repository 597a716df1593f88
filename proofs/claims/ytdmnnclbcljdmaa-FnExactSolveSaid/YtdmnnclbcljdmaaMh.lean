/-
  HOW MANY STEPS: spec.SolveCount, impl.SolveCount; the law of SolveCount.
-/
import Derived.Test.YtdmnnclbcljdmaaMg
import Derived.Test.YtdmnnclbcljdmaaQg
namespace Go.Proofs.Ytdmnnclbcljdmaa
open Go.RowKit
set_option linter.unusedVariables false

theorem solF_verdict (css : List (List Int)) (V : Nat) : ∀ (n : Nat) (st : Int) (L : List (List Int)) (D : List Int), (solF css V n st L D).1 = 1 ∨ (solF css V n st L D).1 = 2 ∨ (solF css V n st L D).1 = 3
  | 0, st, L, D => .inr (.inr rfl)
  | n + 1, st, L, D => by
    unfold solF
    split
    · split
      · exact .inl rfl
      · exact solF_verdict css V n _ _ _
    · split
      · exact .inr (.inl rfl)
      · exact solF_verdict css V n _ _ _
theorem solA_cases (vars : Int) (css : List (List Int)) (bud : Int) : ((solA vars css bud).2 = 1 ∧ (solA vars css bud).1.1 = 0) ∨ ((solA vars css bud).2 = 0 ∧ ((solA vars css bud).1.1 = 1 ∨ (solA vars css bud).1.1 = 2 ∨ (solA vars css bud).1.1 = 3)) := by
  by_cases h : SolOk vars css bud
  · rw [solA_yes h]; exact .inr ⟨rfl, solF_verdict _ _ _ _ _ _⟩
  · rw [solA_no h]; exact .inl ⟨rfl, rfl⟩
/-- What SolveCount answers. -/
noncomputable def cntA (vars : Int) (css : List (List Int)) (bud : Int) : Int := if (solA vars css bud).2 = 0 then (if (solA vars css bud).1.1 = 3 then -1 else (solA vars css bud).1.2.2.2) else -1
theorem WfC.lits {cs : List LCl} (h : WfC cs) : ∀ l ∈ bareC cs, ∀ z ∈ l, wfI z := fun l hl z hz => by
  obtain ⟨r, hr, rfl⟩ := List.mem_map.1 hl
  exact h r hr z hz

set_option maxRecDepth 100000 in
set_option maxHeartbeats 2000000 in
/-- spec.SolveCount. -/
theorem ssc_any (vars bud : Int) (sl : Option Addr) (cap : Nat) (cs : List LCl) (w : World) (hn : cs.length ≤ maxLen) (hs : totC cs ≤ 1048576) (hwf : WfC cs) (hz : Cls w sl cs) :
    Calls Try.prog 21 #[CV vars sl cs.length cap, .int .i64 bud] w fun e w' => e = .returned (.int .i64 (cntA vars (bareC cs) bud)) ∧ Below w.heap.size w w' := by
  have b0 := bA0 w (.cells #[.int .i64 vars, .slice sl cs.length cap] 25)
  have C := Lib.hid (sso_any vars bud sl cap cs _ hn hs hwf (hz.below b0))
  have CA := CnfAt.new w vars sl cs.length cap
  obtain ⟨q0, q1⟩ := CA.cells
  have ql := CA.lt
  have B0 := Lib.hid b0
  have HC := solA_cases vars (bareC cs) bud
  unfold cntA
  clear CA b0 hz hwf hn hs
  generalize solA vars (bareC cs) bud = A at *
  generalize cs.length = n at *
  have K : Hid (∀ w1, Below w.heap.size w w1 → ∀ o, Below w.heap.size w (w1.alloc o)) := fun w1 h o => bA h o
  rcases HC with ⟨h1, h2⟩ | ⟨h1, h2 | h2 | h2⟩
  all_goals
    rw [h1, h2]
    unfold SPost at C
    rw [h1, h2] at C
    go_enter Try.func21, Try.ntmps21
    go_wp2_with (go_at_call 7; refine C.out.mono ?_; rintro e w1 ⟨vt, vl, ls, rfl, hv, b1⟩; obtain ⟨ts, tk, rfl⟩ := own_v hv.tr; obtain ⟨lv, lk, rfl⟩ := hv.ol.v; have D1 := Lib.hid (bT B0.out b1); clear hv b1)
    go_ret
    exact ⟨rfl, K.out _ D1.out _⟩

set_option maxRecDepth 100000 in
set_option maxHeartbeats 2000000 in
/-- impl.SolveCount. -/
theorem isc_any (vars bud : Int) (sl : Option Addr) (cap : Nat) (cs : List LCl) (w : World) (hn : cs.length ≤ maxLen) (hwf : WfC cs) (hz : Cls w sl cs) :
    Calls Try.prog 22 #[CV vars sl cs.length cap, .int .i64 bud] w fun e w' => e = .returned (.int .i64 (cntA vars (bareC cs) bud)) ∧ Below w.heap.size w w' := by
  have b0 := bA0 w (.cells #[.int .i64 vars, .slice sl cs.length cap] 25)
  have C := Lib.hid (iso_any vars bud sl cap cs _ hn (hz.below b0) hwf.lits)
  have CA := CnfAt.new w vars sl cs.length cap
  obtain ⟨q0, q1⟩ := CA.cells
  have ql := CA.lt
  have B0 := Lib.hid b0
  have HC := solA_cases vars (bareC cs) bud
  unfold cntA
  clear CA b0 hz hwf hn
  generalize solA vars (bareC cs) bud = A at *
  generalize cs.length = n at *
  have K : Hid (∀ w1, Below w.heap.size w w1 → ∀ o, Below w.heap.size w (w1.alloc o)) := fun w1 h o => bA h o
  rcases HC with ⟨h1, h2⟩ | ⟨h1, h2 | h2 | h2⟩
  all_goals
    rw [h1, h2]
    unfold SPost at C
    rw [h1, h2] at C
    go_enter Try.func22, Try.ntmps22
    go_wp2_with (go_at_call 8; refine C.out.mono ?_; rintro e w1 ⟨vt, vl, ls, rfl, hv, b1⟩; obtain ⟨ts, tk, rfl⟩ := own_v hv.tr; obtain ⟨lv, lk, rfl⟩ := hv.ol.v; have D1 := Lib.hid (bT B0.out b1); clear hv b1)
    go_ret
    exact ⟨rfl, K.out _ D1.out _⟩

set_option maxRecDepth 100000 in
set_option maxHeartbeats 2000000 in
theorem law5 (vars bud : Int) (sl : Option Addr) (cap : Nat) (cs : List LCl) (w : World) (h : InC w sl cs) :
    Calls Try.prog 5 #[CV vars sl cs.length cap, .int .i64 bud] w fun e w' => e = .returned (.bool true) ∧ Below w.heap.size w w' := by
  have hln := h.ln
  have SZ : Hid (∀ W, Below w.heap.size w W → Calls Try.prog 14 #[CV vars sl cs.length cap, .int .i64 1048576] W fun e w' => e = .returned (.int .i64 (lft 1048576 (cs.length + totC cs))) ∧ Below W.heap.size W w') := fun W hW => szC_any vars sl cap cs W h.ln (h.cl.below hW)
  unfold maxLen at hln
  rcases lft_cases 1048576 (cs.length + totC cs) (by omega) with ⟨e, hl⟩ | ⟨e, hl⟩
  · rw [e] at SZ
    clear h e hl
    generalize cs.length = n at *
    go_enter Try.func5, Try.ntmps5
    go_wp2_with fail
    refine (SZ.out _ (bA0 _ _)).mono ?_
    rintro e w1 ⟨rfl, b1⟩
    have D1 := Lib.hid (bT (bA0 w _) b1)
    clear b1
    go_wp2
    go_ret
    exact ⟨rfl, D1.out⟩
  · rw [e] at SZ
    have TO : Hid (∀ W, Below w.heap.size w W → Calls Try.prog 15 #[CV vars sl cs.length cap] W fun e w' => ∃ b cs', e = .returned (CV vars (some ⟨b, 0, none⟩) cs.length cs.length) ∧ bareC cs' = bareC cs ∧ Cls w' (some ⟨b, 0, none⟩) cs' ∧ Below W.heap.size W w') := fun W hW => toC_any vars sl cap cs W (by omega) (by omega) (h.cl.below hW)
    have SP : Hid (∀ b cs' W, bareC cs' = bareC cs → Cls W (some ⟨b, 0, none⟩) cs' → Calls Try.prog 21 #[CV vars (some ⟨b, 0, none⟩) cs.length cs.length, .int .i64 bud] W fun e w' => e = .returned (.int .i64 (cntA vars (bareC cs) bud)) ∧ Below W.heap.size W w') := fun b cs' W eb c => by
      have := ssc_any vars bud (some ⟨b, 0, none⟩) cs.length cs' W (by rw [bareC_len eb]; unfold maxLen; omega) (by rw [totC_bare eb]; omega) (h.wf.bare eb) c
      rwa [bareC_len eb, eb] at this
    have IM : Hid (∀ b cs' W, bareC cs' = bareC cs → Cls W (some ⟨b, 0, none⟩) cs' → Calls Try.prog 22 #[CV vars (some ⟨b, 0, none⟩) cs.length cs.length, .int .i64 bud] W fun e w' => e = .returned (.int .i64 (cntA vars (bareC cs) bud)) ∧ Below W.heap.size W w') := fun b cs' W eb c => by
      have := isc_any vars bud (some ⟨b, 0, none⟩) cs.length cs' W (by rw [bareC_len eb]; unfold maxLen; omega) (h.wf.bare eb) c
      rwa [bareC_len eb, eb] at this
    have TE : Hid (∀ b2 cs2 b3 cs3 W, bareC cs2 = bareC cs → bareC cs3 = bareC cs → Cls W (some ⟨b2, 0, none⟩) cs2 → Cls W (some ⟨b3, 0, none⟩) cs3 → Calls Try.prog 17 #[CV vars (some ⟨b2, 0, none⟩) cs.length cs.length, CV vars (some ⟨b3, 0, none⟩) cs.length cs.length] W fun e w' => e = .returned (.bool true) ∧ Below W.heap.size W w') := fun b2 cs2 b3 cs3 W e2 e3 c2 c3 => by
      have := eqC_any vars (some ⟨b2, 0, none⟩) (some ⟨b3, 0, none⟩) cs.length cs.length cs2 cs3 W (by rw [bareC_len e2]; omega) (e2.trans e3.symm) c2 c3
      rwa [bareC_len e2, bareC_len e3] at this
    have hneg : ¬ ((1048576 : Int) - ((cs.length + totC cs : Nat) : Int)) < 0 := by omega
    clear h e hl
    generalize (1048576 : Int) - ((cs.length + totC cs : Nat) : Int) = z at *
    generalize cs.length = n at *
    generalize cntA vars (bareC cs) bud = r at *
    have HT := Lib.hid (show (w.alloc (.cells #[.int .i64 vars, .slice sl n cap] 38)).heap[w.heap.size]? = some (.cells #[.int .i64 vars, .slice sl n cap] 38) from new_at _ _)
    have B0 := Lib.hid (bA0 w (.cells #[.int .i64 vars, .slice sl n cap] 38))
    have hw0 : (w.alloc (.cells #[.int .i64 vars, .slice sl n cap] 38)).heap.size = w.heap.size + 1 := by simp
    have KT : Hid (∀ W, Below (w.heap.size + 1) (w.alloc (.cells #[.int .i64 vars, .slice sl n cap] 38)) W → w.heap.size < W.heap.size ∧ W.cell? ⟨w.heap.size, 0, none⟩ = some (.int .i64 vars) ∧ W.cell? ⟨w.heap.size, 1, none⟩ = some (.slice sl n cap)) := fun W hW => by
      have := (hW.block w.heap.size (by omega)).trans HT.out
      exact ⟨(Array.getElem?_eq_some_iff.1 this).1, by simp [World.cell?, this], by simp [World.cell?, this]⟩
    have hrr : (r != r) = false := by simp
    go_enter Try.func5, Try.ntmps5
    go_wp2_with fail
    refine (SZ.out _ (bA0 _ _)).mono ?_
    rintro e w1 ⟨rfl, b1⟩
    generalize w.alloc (.cells #[.int .i64 vars, .slice sl n cap] 38) = wA at *
    have A1 : Hid (Below (w.heap.size + 1) wA w1) := by rw [← hw0]; exact b1
    have D1 := Lib.hid (bT B0.out b1)
    clear b1 SZ
    obtain ⟨tl, t0, t1⟩ := KT.out _ A1.out
    have hs1 := A1.out.size
    go_wp2_with fail
    refine (TO.out _ D1.out).mono ?_
    rintro e w2 ⟨b1, cs1, rfl, e1, s1, bl2⟩
    have D2 := Lib.hid (bT D1.out bl2)
    have A2 := Lib.hid (A1.out.trans (bl2.mono (by omega)))
    have T2 := Lib.hid (SP.out b1 cs1 w2 e1 s1)
    have hs2 := A2.out.size
    clear s1 e1 bl2 A1 D1 t0 t1 tl
    go_wp2_with fail
    refine T2.out.mono ?_
    rintro e w3 ⟨rfl, bl3⟩
    have D3 := Lib.hid (bT D2.out bl3)
    have A3 := Lib.hid (A2.out.trans (bl3.mono (by omega)))
    clear bl3 T2 A2 D2
    obtain ⟨tl, t0, t1⟩ := KT.out _ A3.out
    have hs3 := A3.out.size
    go_wp2_with fail
    refine (TO.out _ D3.out).mono ?_
    rintro e w4 ⟨b2, cs2, rfl, e2, s2, bl4⟩
    have D4 := Lib.hid (bT D3.out bl4)
    have A4 := Lib.hid (A3.out.trans (bl4.mono (by omega)))
    have E2 := Lib.hid e2
    have S2 := Lib.hid (s2.below (bA0 _ (.cells #[.int .i64 vars, .slice (some ⟨b2, 0, none⟩) n n] 25)))
    have X2 := Lib.hid (CnfAt.new w4 vars (some ⟨b2, 0, none⟩) n n)
    have D5 := Lib.hid (bA D4.out (.cells #[.int .i64 vars, .slice (some ⟨b2, 0, none⟩) n n] 25))
    have hs4 := A4.out.size
    have A5 := Lib.hid (A4.out.trans ((bA0 w4 (.cells #[.int .i64 vars, .slice (some ⟨b2, 0, none⟩) n n] 25)).mono (by omega)))
    clear e2 s2 bl4 A3 D3 t0 t1 tl A4 D4
    go_wp2_with fail
    generalize w4.alloc (.cells #[.int .i64 vars, .slice (some ⟨b2, 0, none⟩) n n] 25) = w5 at *
    have hs5 := A5.out.size
    refine (IM.out b2 cs2 w5 E2.out S2.out).mono ?_
    rintro e w6 ⟨rfl, bl6⟩
    have D6 := Lib.hid (bT D5.out bl6)
    have A6 := Lib.hid (A5.out.trans (bl6.mono (by omega)))
    have S6 := Lib.hid (S2.out.below bl6)
    have X6 := Lib.hid (X2.out.below bl6)
    clear bl6 S2 X2 A5 D5 IM SP
    have hw4 := X6.out.lt
    have hs6 := A6.out.size
    have KX : Hid (∀ W, Below w6.heap.size w6 W → w.heap.size < W.heap.size ∧ w4.heap.size < W.heap.size ∧ W.cell? ⟨w.heap.size, 0, none⟩ = some (.int .i64 vars) ∧ W.cell? ⟨w.heap.size, 1, none⟩ = some (.slice sl n cap) ∧ W.cell? ⟨w4.heap.size, 0, none⟩ = some (.int .i64 vars) ∧ W.cell? ⟨w4.heap.size, 1, none⟩ = some (.slice (some ⟨b2, 0, none⟩) n n)) := fun W hW => by
      obtain ⟨k1, k2, k3⟩ := KT.out W (A6.out.trans (hW.mono (by omega)))
      obtain ⟨k4, k5⟩ := (X6.out.below hW).cells
      exact ⟨k1, (X6.out.below hW).lt, k2, k3, k4, k5⟩
    go_wp2_with fail
    refine wp_region_held_drew (S := fun W => w.heap.size < W.heap.size ∧ w4.heap.size < W.heap.size ∧ W.cell? ⟨w.heap.size, 0, none⟩ = some (.int .i64 vars) ∧ W.cell? ⟨w.heap.size, 1, none⟩ = some (.slice sl n cap) ∧ W.cell? ⟨w4.heap.size, 0, none⟩ = some (.int .i64 vars) ∧ W.cell? ⟨w4.heap.size, 1, none⟩ = some (.slice (some ⟨b2, 0, none⟩) n n)) (by kernel_rfl) ?_ (fun hHeld => ?_)
    · exact KX.out _ (Below.refl _ _).drew
    refine wpAnyH_take (i := 0) (oi := _) (v := ?_) rfl (by kernel_rfl) (by kernel_rfl) (by kernel_rfl) (fun _ _ _ h => h) (Or.inl ⟨by rfl, ?_⟩) (by assumption) ?_
    rotate_left
    · first | (intro w hSw; (try dsimp only at hSw); go_simp; done) | (intro w hSw; (try dsimp only at hSw); go_simp; with_reducible rfl)
    try simp only [Act.put, List.setIfInBounds_toArray, List.set_cons_zero, List.set_cons_succ, List.getElem_toArray, List.getElem_cons_zero]
    refine wpAnyH_take (i := 1) (oi := _) (v := ?_) rfl (by kernel_rfl) (by kernel_rfl) (by kernel_rfl) (fun _ _ _ h => h) (Or.inl ⟨by rfl, ?_⟩) (by assumption) ?_
    rotate_left
    · first | (intro w hSw; (try dsimp only at hSw); go_simp; done) | (intro w hSw; (try dsimp only at hSw); go_simp; with_reducible rfl)
    try simp only [Act.put, List.setIfInBounds_toArray, List.set_cons_zero, List.set_cons_succ, List.getElem_toArray, List.getElem_cons_succ, List.getElem_cons_zero]
    refine wpAnyH_ready (rs := [2]) (by kernel_rfl) (by simp) ?_
    refine AllReadyH.cons rfl (fun K hK => ?_) AllReadyH.nil
    go_simp
    go_wp2_with (go_at_call 15; refine (TO.out _ D6.out.drew).mono ?_; rintro e w7 ⟨b3, cs3, rfl, e3, s3, bl7⟩)
    have D7 : Hid (Below w6.heap.size w6 w7) := bT ((Below.refl w6.heap.size w6).drew) bl7
    have S7 := Lib.hid s3
    have E7 := Lib.hid e3
    clear bl7 s3 e3
    refine hK.out _ _ ?_ (fun hHeld => ?_)
    · exact KX.out _ D7.out
    clear hK K
    refine wpAnyH_ready (rs := [3]) (by kernel_rfl) (by simp) ?_
    refine AllReadyH.cons rfl (fun K hK => ?_) AllReadyH.nil
    go_simp
    go_wp2_with (go_at_call 17; refine (TE.out b2 cs2 b3 cs3 _ E2.out E7.out (S6.out.below D7.out) S7.out).mono ?_; rintro e w8 ⟨rfl, bl8⟩)
    have D8 : Hid (Below w6.heap.size w6 w8) := bT D7.out bl8
    clear bl8
    refine hK.out _ _ ?_ (fun hHeld => ?_)
    · exact KX.out _ D8.out
    clear hK K
    refine wpAnyH_take (i := 4) (oi := _) (v := ?_) rfl (by kernel_rfl) (by kernel_rfl) (by kernel_rfl) (fun _ _ _ h => h) (Or.inl ⟨by rfl, ?_⟩) (by assumption) ?_
    rotate_left
    · first | (intro w hSw; (try dsimp only at hSw); go_simp; done) | (intro w hSw; (try dsimp only at hSw); go_simp; with_reducible rfl)
    try simp only [Act.put, List.setIfInBounds_toArray, List.set_cons_zero, List.set_cons_succ, List.getElem_toArray, List.getElem_cons_succ, List.getElem_cons_zero]
    refine wpAnyH_done (by kernel_rfl) ?_ _
    have D9 := Lib.hid (bT D6.out D8.out)
    clear D8 D7 KX S7 E7 TE TO
    go_wp2
    go_ret
    exact ⟨rfl, D9.out⟩

end Go.Proofs.Ytdmnnclbcljdmaa
