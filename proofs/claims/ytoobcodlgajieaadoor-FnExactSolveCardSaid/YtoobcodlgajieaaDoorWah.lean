/-
  HOW MANY STEPS: spec.SolveCount, impl.SolveCount; the law of SolveCount.
  THE LAW OF SOLVE: the walk.
-/
import Derived.Test.YtoobcodlgajieaaDoorUaf
import Derived.Test.YtoobcodlgajieaaDoorUae
import Derived.Test.YtoobcodlgajieaaDoorVad
import Derived.Test.YtoobcodlgajieaaDoorVac
import Derived.Test.YtoobcodlgajieaaDoorUab
import Derived.Test.YtoobcodlgajieaaDoorVab
import Derived.Test.YtoobcodlgajieaaDoorUaa
import Derived.Test.YtoobcodlgajieaaDoorVaa
import Derived.Test.YtoobcodlgajieaaDoorWag
import Derived.Test.YtoobcodlgajieaaDoorSc
namespace Go.Proofs.YtoobcodlgajieaaDoor
open Go.RowKit
set_option linter.unusedVariables false

theorem solF_verdict (css : List (List Int)) (V : Nat) : ∀ (n : Nat) (st : Int) (L : List (List Int)) (D : List Int), (solF css V n st L D).1 = 1 ∨ (solF css V n st L D).1 = 2 ∨ (solF css V n st L D).1 = 3
  | 0, st, L, D => .inr (.inr rfl)
  | n + 1, st, L, D => by
    unfold solF
    split
    · split
      · exact .inl rfl
      · exact solF_verdict css V n _ _ _
    · split
      · exact .inr (.inl rfl)
      · exact solF_verdict css V n _ _ _
theorem solA_cases (vars : Int) (css : List (List Int)) (bud : Int) : ((solA vars css bud).2 = 1 ∧ (solA vars css bud).1.1 = 0) ∨ ((solA vars css bud).2 = 0 ∧ ((solA vars css bud).1.1 = 1 ∨ (solA vars css bud).1.1 = 2 ∨ (solA vars css bud).1.1 = 3)) := by
  by_cases h : SolOk vars css bud
  · rw [solA_yes h]; exact .inr ⟨rfl, solF_verdict _ _ _ _ _ _⟩
  · rw [solA_no h]; exact .inl ⟨rfl, rfl⟩
/-- What SolveCount answers. -/
noncomputable def cntA (vars : Int) (css : List (List Int)) (bud : Int) : Int := if (solA vars css bud).2 = 0 then (if (solA vars css bud).1.1 = 3 then -1 else (solA vars css bud).1.2.2.2) else -1
theorem WfC.lits {cs : List LCl} (h : WfC cs) : ∀ l ∈ bareC cs, ∀ z ∈ l, wfI z := fun l hl z hz => by
  obtain ⟨r, hr, rfl⟩ := List.mem_map.1 hl
  exact h r hr z hz

set_option maxRecDepth 100000 in
set_option maxHeartbeats 2000000 in
/-- spec.SolveCount. -/
theorem ssc_any (vars bud : Int) (sl : Option Addr) (cap : Nat) (cs : List LCl) (w : World) (hn : cs.length ≤ maxLen) (hs : totC cs ≤ 1048576) (hwf : WfC cs) (hz : Cls w sl cs) :
    Calls Tryd.prog 40 #[CV vars sl cs.length cap, .int .i64 bud] w fun e w' => e = .returned (.int .i64 (cntA vars (bareC cs) bud)) ∧ Below w.heap.size w w' := by
  have b0 := bA0 w (.cells #[.int .i64 vars, .slice sl cs.length cap] 25)
  have C := Lib.hid (sso_any vars bud sl cap cs _ hn hs hwf (hz.below b0))
  have CA := CnfAt.new w vars sl cs.length cap
  obtain ⟨q0, q1⟩ := CA.cells
  have ql := CA.lt
  have B0 := Lib.hid b0
  have HC := solA_cases vars (bareC cs) bud
  unfold cntA
  clear CA b0 hz hwf hn hs
  generalize solA vars (bareC cs) bud = A at *
  generalize cs.length = n at *
  have K : Hid (∀ w1, Below w.heap.size w w1 → ∀ o, Below w.heap.size w (w1.alloc o)) := fun w1 h o => bA h o
  rcases HC with ⟨h1, h2⟩ | ⟨h1, h2 | h2 | h2⟩
  all_goals
    rw [h1, h2]
    unfold SPost at C
    rw [h1, h2] at C
    go_enter Tryd.func40, Tryd.ntmps40
    go_wp2_with (go_at_call 18; refine C.out.mono ?_; rintro e w1 ⟨vt, vl, ls, rfl, hv, b1⟩; obtain ⟨ts, tk, rfl⟩ := own_v hv.tr; obtain ⟨lv, lk, rfl⟩ := hv.ol.v; have D1 := Lib.hid (bT B0.out b1); clear hv b1)
    go_ret
    exact ⟨rfl, K.out _ D1.out _⟩

set_option maxRecDepth 100000 in
set_option maxHeartbeats 2000000 in
/-- impl.SolveCount. -/
theorem isc_any (vars bud : Int) (sl : Option Addr) (cap : Nat) (cs : List LCl) (w : World) (hn : cs.length ≤ maxLen) (hwf : WfC cs) (hz : Cls w sl cs) (hT : TabB w) :
    Calls Tryd.prog 41 #[CV vars sl cs.length cap, .int .i64 bud] w fun e w' => e = .returned (.int .i64 (cntA vars (bareC cs) bud)) ∧ Below w.heap.size w w' := by
  have b0 := bA0 w (.cells #[.int .i64 vars, .slice sl cs.length cap] 25)
  have C := Lib.hid (iso_any vars bud sl cap cs _ hn (hz.below b0) hwf.lits (hT.belowT b0))
  have CA := CnfAt.new w vars sl cs.length cap
  obtain ⟨q0, q1⟩ := CA.cells
  have ql := CA.lt
  have B0 := Lib.hid b0
  have HC := solA_cases vars (bareC cs) bud
  unfold cntA
  clear CA b0 hz hwf hn
  generalize solA vars (bareC cs) bud = A at *
  generalize cs.length = n at *
  have K : Hid (∀ w1, Below w.heap.size w w1 → ∀ o, Below w.heap.size w (w1.alloc o)) := fun w1 h o => bA h o
  rcases HC with ⟨h1, h2⟩ | ⟨h1, h2 | h2 | h2⟩
  all_goals
    rw [h1, h2]
    unfold SPost at C
    rw [h1, h2] at C
    go_enter Tryd.func41, Tryd.ntmps41
    go_wp2_with (go_at_call 19; refine C.out.mono ?_; rintro e w1 ⟨vt, vl, ls, rfl, hv, b1⟩; obtain ⟨ts, tk, rfl⟩ := own_v hv.tr; obtain ⟨lv, lk, rfl⟩ := hv.ol.v; have D1 := Lib.hid (bT B0.out b1); clear hv b1)
    go_ret
    exact ⟨rfl, K.out _ D1.out _⟩

set_option maxRecDepth 100000 in
set_option maxHeartbeats 2000000 in
theorem law5 (vars bud : Int) (sl : Option Addr) (cap : Nat) (cs : List LCl) (w : World) (h : InC w sl cs) (hT : TabB w) :
    Calls Tryd.prog 7 #[CV vars sl cs.length cap, .int .i64 bud] w fun e w' => e = .returned (.bool true) ∧ Below w.heap.size w w' := by
  have hln := h.ln
  have SZ : Hid (∀ W, Below w.heap.size w W → Calls Tryd.prog 23 #[CV vars sl cs.length cap, .int .i64 1048576] W fun e w' => e = .returned (.int .i64 (lft 1048576 (cs.length + totC cs))) ∧ Below W.heap.size W w') := fun W hW => szC_any vars sl cap cs W h.ln (h.cl.below hW)
  unfold maxLen at hln
  rcases lft_cases 1048576 (cs.length + totC cs) (by omega) with ⟨e, hl⟩ | ⟨e, hl⟩
  · rw [e] at SZ
    clear h e hl
    generalize cs.length = n at *
    go_enter Tryd.func7, Tryd.ntmps7
    go_wp2_with fail
    refine (SZ.out _ (bA0 _ _)).mono ?_
    rintro e w1 ⟨rfl, b1⟩
    have D1 := Lib.hid (bT (bA0 w _) b1)
    clear b1
    go_wp2
    go_ret
    exact ⟨rfl, D1.out⟩
  · rw [e] at SZ
    have TO : Hid (∀ W, Below w.heap.size w W → Calls Tryd.prog 25 #[CV vars sl cs.length cap] W fun e w' => ∃ b cs', e = .returned (CV vars (some ⟨b, 0, none⟩) cs.length cs.length) ∧ bareC cs' = bareC cs ∧ Cls w' (some ⟨b, 0, none⟩) cs' ∧ Below W.heap.size W w') := fun W hW => toC_any vars sl cap cs W (by omega) (by omega) (h.cl.below hW)
    have SP : Hid (∀ b cs' W, bareC cs' = bareC cs → Cls W (some ⟨b, 0, none⟩) cs' → Calls Tryd.prog 40 #[CV vars (some ⟨b, 0, none⟩) cs.length cs.length, .int .i64 bud] W fun e w' => e = .returned (.int .i64 (cntA vars (bareC cs) bud)) ∧ Below W.heap.size W w') := fun b cs' W eb c => by
      have := ssc_any vars bud (some ⟨b, 0, none⟩) cs.length cs' W (by rw [bareC_len eb]; unfold maxLen; omega) (by rw [totC_bare eb]; omega) (h.wf.bare eb) c
      rwa [bareC_len eb, eb] at this
    have IM : Hid (∀ b cs' W, bareC cs' = bareC cs → Cls W (some ⟨b, 0, none⟩) cs' → Below w.heap.size w W → Calls Tryd.prog 41 #[CV vars (some ⟨b, 0, none⟩) cs.length cs.length, .int .i64 bud] W fun e w' => e = .returned (.int .i64 (cntA vars (bareC cs) bud)) ∧ Below W.heap.size W w') := fun b cs' W eb c hbw => by
      have := isc_any vars bud (some ⟨b, 0, none⟩) cs.length cs' W (by rw [bareC_len eb]; unfold maxLen; omega) (h.wf.bare eb) c (hT.belowT hbw)
      rwa [bareC_len eb, eb] at this
    have TE : Hid (∀ b2 cs2 b3 cs3 W, bareC cs2 = bareC cs → bareC cs3 = bareC cs → Cls W (some ⟨b2, 0, none⟩) cs2 → Cls W (some ⟨b3, 0, none⟩) cs3 → Calls Tryd.prog 29 #[CV vars (some ⟨b2, 0, none⟩) cs.length cs.length, CV vars (some ⟨b3, 0, none⟩) cs.length cs.length] W fun e w' => e = .returned (.bool true) ∧ Below W.heap.size W w') := fun b2 cs2 b3 cs3 W e2 e3 c2 c3 => by
      have := eqC_any vars (some ⟨b2, 0, none⟩) (some ⟨b3, 0, none⟩) cs.length cs.length cs2 cs3 W (by rw [bareC_len e2]; omega) (e2.trans e3.symm) c2 c3
      rwa [bareC_len e2, bareC_len e3] at this
    have hneg : ¬ ((1048576 : Int) - ((cs.length + totC cs : Nat) : Int)) < 0 := by omega
    clear h e hl
    generalize (1048576 : Int) - ((cs.length + totC cs : Nat) : Int) = z at *
    generalize cs.length = n at *
    generalize cntA vars (bareC cs) bud = r at *
    have HT := Lib.hid (show (w.alloc (.cells #[.int .i64 vars, .slice sl n cap] 45)).heap[w.heap.size]? = some (.cells #[.int .i64 vars, .slice sl n cap] 45) from new_at _ _)
    have B0 := Lib.hid (bA0 w (.cells #[.int .i64 vars, .slice sl n cap] 45))
    have hw0 : (w.alloc (.cells #[.int .i64 vars, .slice sl n cap] 45)).heap.size = w.heap.size + 1 := by simp
    have KT : Hid (∀ W, Below (w.heap.size + 1) (w.alloc (.cells #[.int .i64 vars, .slice sl n cap] 45)) W → w.heap.size < W.heap.size ∧ W.cell? ⟨w.heap.size, 0, none⟩ = some (.int .i64 vars) ∧ W.cell? ⟨w.heap.size, 1, none⟩ = some (.slice sl n cap)) := fun W hW => by
      have := (hW.block w.heap.size (by omega)).trans HT.out
      exact ⟨(Array.getElem?_eq_some_iff.1 this).1, by simp [World.cell?, this], by simp [World.cell?, this]⟩
    have hrr : (r != r) = false := by simp
    go_enter Tryd.func7, Tryd.ntmps7
    go_wp2_with fail
    refine (SZ.out _ (bA0 _ _)).mono ?_
    rintro e w1 ⟨rfl, b1⟩
    generalize w.alloc (.cells #[.int .i64 vars, .slice sl n cap] 45) = wA at *
    have A1 : Hid (Below (w.heap.size + 1) wA w1) := by rw [← hw0]; exact b1
    have D1 := Lib.hid (bT B0.out b1)
    clear b1 SZ
    obtain ⟨tl, t0, t1⟩ := KT.out _ A1.out
    have hs1 := A1.out.size
    go_wp2_with fail
    refine (TO.out _ D1.out).mono ?_
    rintro e w2 ⟨b1, cs1, rfl, e1, s1, bl2⟩
    have D2 := Lib.hid (bT D1.out bl2)
    have A2 := Lib.hid (A1.out.trans (bl2.mono (by omega)))
    have T2 := Lib.hid (SP.out b1 cs1 w2 e1 s1)
    have hs2 := A2.out.size
    clear s1 e1 bl2 A1 D1 t0 t1 tl
    go_wp2_with fail
    refine T2.out.mono ?_
    rintro e w3 ⟨rfl, bl3⟩
    have D3 := Lib.hid (bT D2.out bl3)
    have A3 := Lib.hid (A2.out.trans (bl3.mono (by omega)))
    clear bl3 T2 A2 D2
    obtain ⟨tl, t0, t1⟩ := KT.out _ A3.out
    have hs3 := A3.out.size
    go_wp2_with fail
    refine (TO.out _ D3.out).mono ?_
    rintro e w4 ⟨b2, cs2, rfl, e2, s2, bl4⟩
    have D4 := Lib.hid (bT D3.out bl4)
    have A4 := Lib.hid (A3.out.trans (bl4.mono (by omega)))
    have E2 := Lib.hid e2
    have S2 := Lib.hid (s2.below (bA0 _ (.cells #[.int .i64 vars, .slice (some ⟨b2, 0, none⟩) n n] 25)))
    have X2 := Lib.hid (CnfAt.new w4 vars (some ⟨b2, 0, none⟩) n n)
    have D5 := Lib.hid (bA D4.out (.cells #[.int .i64 vars, .slice (some ⟨b2, 0, none⟩) n n] 25))
    have hs4 := A4.out.size
    have A5 := Lib.hid (A4.out.trans ((bA0 w4 (.cells #[.int .i64 vars, .slice (some ⟨b2, 0, none⟩) n n] 25)).mono (by omega)))
    clear e2 s2 bl4 A3 D3 t0 t1 tl A4 D4
    go_wp2_with fail
    generalize w4.alloc (.cells #[.int .i64 vars, .slice (some ⟨b2, 0, none⟩) n n] 25) = w5 at *
    have hs5 := A5.out.size
    refine (IM.out b2 cs2 w5 E2.out S2.out D5.out).mono ?_
    rintro e w6 ⟨rfl, bl6⟩
    have D6 := Lib.hid (bT D5.out bl6)
    have A6 := Lib.hid (A5.out.trans (bl6.mono (by omega)))
    have S6 := Lib.hid (S2.out.below bl6)
    have X6 := Lib.hid (X2.out.below bl6)
    clear bl6 S2 X2 A5 D5 IM SP
    have hw4 := X6.out.lt
    have hs6 := A6.out.size
    have KX : Hid (∀ W, Below w6.heap.size w6 W → w.heap.size < W.heap.size ∧ w4.heap.size < W.heap.size ∧ W.cell? ⟨w.heap.size, 0, none⟩ = some (.int .i64 vars) ∧ W.cell? ⟨w.heap.size, 1, none⟩ = some (.slice sl n cap) ∧ W.cell? ⟨w4.heap.size, 0, none⟩ = some (.int .i64 vars) ∧ W.cell? ⟨w4.heap.size, 1, none⟩ = some (.slice (some ⟨b2, 0, none⟩) n n)) := fun W hW => by
      obtain ⟨k1, k2, k3⟩ := KT.out W (A6.out.trans (hW.mono (by omega)))
      obtain ⟨k4, k5⟩ := (X6.out.below hW).cells
      exact ⟨k1, (X6.out.below hW).lt, k2, k3, k4, k5⟩
    go_wp2_with fail
    refine wp_region_held_drew (S := fun W => w.heap.size < W.heap.size ∧ w4.heap.size < W.heap.size ∧ W.cell? ⟨w.heap.size, 0, none⟩ = some (.int .i64 vars) ∧ W.cell? ⟨w.heap.size, 1, none⟩ = some (.slice sl n cap) ∧ W.cell? ⟨w4.heap.size, 0, none⟩ = some (.int .i64 vars) ∧ W.cell? ⟨w4.heap.size, 1, none⟩ = some (.slice (some ⟨b2, 0, none⟩) n n)) (by kernel_rfl) ?_ (fun hHeld => ?_)
    · exact KX.out _ (Below.refl _ _).drew
    refine wpAnyH_take (i := 0) (oi := _) (v := ?_) rfl (by kernel_rfl) (by kernel_rfl) (by kernel_rfl) (fun _ _ _ h => h) (Or.inl ⟨by rfl, ?_⟩) (by assumption) ?_
    rotate_left
    · first | (intro w hSw; (try dsimp only at hSw); go_simp; done) | (intro w hSw; (try dsimp only at hSw); go_simp; with_reducible rfl)
    try simp only [Act.put, List.setIfInBounds_toArray, List.set_cons_zero, List.set_cons_succ, List.getElem_toArray, List.getElem_cons_zero]
    refine wpAnyH_take (i := 1) (oi := _) (v := ?_) rfl (by kernel_rfl) (by kernel_rfl) (by kernel_rfl) (fun _ _ _ h => h) (Or.inl ⟨by rfl, ?_⟩) (by assumption) ?_
    rotate_left
    · first | (intro w hSw; (try dsimp only at hSw); go_simp; done) | (intro w hSw; (try dsimp only at hSw); go_simp; with_reducible rfl)
    try simp only [Act.put, List.setIfInBounds_toArray, List.set_cons_zero, List.set_cons_succ, List.getElem_toArray, List.getElem_cons_succ, List.getElem_cons_zero]
    refine wpAnyH_ready (rs := [2]) (by kernel_rfl) (by simp) ?_
    refine AllReadyH.cons rfl (fun K hK => ?_) AllReadyH.nil
    go_simp
    go_wp2_with (go_at_call 25; refine (TO.out _ D6.out.drew).mono ?_; rintro e w7 ⟨b3, cs3, rfl, e3, s3, bl7⟩)
    have D7 : Hid (Below w6.heap.size w6 w7) := bT ((Below.refl w6.heap.size w6).drew) bl7
    have S7 := Lib.hid s3
    have E7 := Lib.hid e3
    clear bl7 s3 e3
    refine hK.out _ _ ?_ (fun hHeld => ?_)
    · exact KX.out _ D7.out
    clear hK K
    refine wpAnyH_ready (rs := [3]) (by kernel_rfl) (by simp) ?_
    refine AllReadyH.cons rfl (fun K hK => ?_) AllReadyH.nil
    go_simp
    go_wp2_with (go_at_call 29; refine (TE.out b2 cs2 b3 cs3 _ E2.out E7.out (S6.out.below D7.out) S7.out).mono ?_; rintro e w8 ⟨rfl, bl8⟩)
    have D8 : Hid (Below w6.heap.size w6 w8) := bT D7.out bl8
    clear bl8
    refine hK.out _ _ ?_ (fun hHeld => ?_)
    · exact KX.out _ D8.out
    clear hK K
    refine wpAnyH_take (i := 4) (oi := _) (v := ?_) rfl (by kernel_rfl) (by kernel_rfl) (by kernel_rfl) (fun _ _ _ h => h) (Or.inl ⟨by rfl, ?_⟩) (by assumption) ?_
    rotate_left
    · first | (intro w hSw; (try dsimp only at hSw); go_simp; done) | (intro w hSw; (try dsimp only at hSw); go_simp; with_reducible rfl)
    try simp only [Act.put, List.setIfInBounds_toArray, List.set_cons_zero, List.set_cons_succ, List.getElem_toArray, List.getElem_cons_succ, List.getElem_cons_zero]
    refine wpAnyH_done (by kernel_rfl) ?_ _
    have D9 := Lib.hid (bT D6.out D8.out)
    clear D8 D7 KX S7 E7 TE TO
    go_wp2
    go_ret
    exact ⟨rfl, D9.out⟩

end Go.Proofs.YtoobcodlgajieaaDoor
namespace Go.Proofs.YtoobcodlgajieaaDoor
open Go.RowKit
set_option linter.unusedVariables false

theorem solF_small (css : List (List Int)) (V : Nat) : ∀ (n : Nat) (st : Int) (L : List (List Int)) (D : List Int), (solF css V n st L D).2.1.length ≤ V ∧ (solF css V n st L D).2.2.1.length ≤ L.length + n ∧ ∀ l ∈ (solF css V n st L D).2.2.1, l ∈ L ∨ l.length ≤ D.length + n
  | 0, st, L, D => ⟨Nat.zero_le _, Nat.le_refl _, fun l hl => .inl hl⟩
  | n + 1, st, L, D => by
    unfold solF
    split
    · split
      · exact ⟨trL_len _ _, by simp, fun l hl => .inl hl⟩
      · obtain ⟨h1, h2, h3⟩ := solF_small css V n (st + 1) L (D ++ [(opn (uRun css L D).1 V 1 : Int)])
        refine ⟨h1, by omega, fun l hl => ?_⟩
        rcases h3 l hl with h | h
        · exact .inl h
        · exact .inr (by simp at h; omega)
    · split
      · refine ⟨Nat.zero_le _, by simp, fun l hl => ?_⟩
        rcases List.mem_append.1 hl with h | h
        · exact .inl h
        · rw [List.mem_singleton.1 h, negL_len]; exact .inr (by omega)
      · obtain ⟨h1, h2, h3⟩ := solF_small css V n (st + 1) (L ++ [negL D]) D.dropLast
        refine ⟨h1, by simp at h2; omega, fun l hl => ?_⟩
        rcases h3 l hl with h | h
        · rcases List.mem_append.1 h with h | h
          · exact .inl h
          · rw [List.mem_singleton.1 h, negL_len]; exact .inr (by omega)
        · exact .inr (by simp at h; omega)
theorem solA_small (vars : Int) (css : List (List Int)) (bud : Int) : (solA vars css bud).1.2.1.length ≤ 900 ∧ (solA vars css bud).1.2.2.1.length ≤ 1000 ∧ ∀ l ∈ (solA vars css bud).1.2.2.1, l.length ≤ 1000 := by
  by_cases h : SolOk vars css bud
  · rw [solA_yes h]
    obtain ⟨h1, h2, h3⟩ := solF_small css vars.toNat bud.toNat 0 [] []
    have a1 := h.1.1.1
    have a2 := h.1.1.2
    have a3 := h.2.1
    have a4 := h.2.2
    refine ⟨by simp only []; omega, by simp only [List.length_nil] at h2 ⊢; omega, fun l hl => ?_⟩
    rcases h3 l hl with g | g
    · cases g
    · simp only [List.length_nil] at g; omega
  · rw [solA_no h]; exact ⟨by simp, by simp, fun l hl => by cases hl⟩
theorem tot_le {ls : List LCl} (h : ∀ r ∈ ls, r.2.length ≤ 1000) : totC ls ≤ 1000 * ls.length := by
  induction ls with
  | nil => simp [totC]
  | cons r t ih =>
    have h1 := ih (fun s hs => h s (by simp [hs]))
    have h2 := h r (by simp)
    have e : totC (r :: t) = r.2.length + totC t := by simp [totC]
    rw [e, List.length_cons]
    omega

theorem OwC.btw {X Y B : Nat} {w w' : World} {v : Value} {cs : List LCl} (h : OwC w B v cs) (hb : Btw X Y w w') (hv : ∀ j, v.ownBlock = some j → j < X ∨ Y ≤ j) (hr : ∀ r ∈ cs, ∀ j, r.1.ownBlock = some j → j < X ∨ Y ≤ j) : OwC w' B v cs :=
  ⟨own_btw h.row hb hv, fun r hr2 => own_btw (h.each r hr2) hb (hr r hr2), h.diff⟩
/-- What the program answered. -/
structure LGD (B b : Nat) (s : Option Addr) (tn k : Nat) (l : Option Addr) (ln j : Nat) (x st c : Int) (xs : List Value) (ms : List LCl) (W : World) : Prop where
  row : W.ownsRow B 2 1 (.slice s tn k) tn xs
  ol : OwC W B (.slice l ln j) ms
  box : BoxS W b x (.slice s tn k) (.slice l ln j) st c
section
variable {B b : Nat} {s : Option Addr} {tn k : Nat} {l : Option Addr} {ln j : Nat} {x st c : Int} {xs : List Value} {ms : List LCl} {W W' : World}
theorem LGD.below (h : LGD B b s tn k l ln j x st c xs ms W) (hb : Below W.heap.size W W') : LGD B b s tn k l ln j x st c xs ms W' := ⟨own_below h.row hb, h.ol.below hb, h.box.below hb⟩
theorem LGD.up {X Y : Nat} (h : LGD B b s tn k l ln j x st c xs ms W) (hb : Btw X Y W W') (h1 : Y ≤ B) (h2 : Y ≤ b) : LGD B b s tn k l ln j x st c xs ms W' :=
  ⟨own_btw h.row hb (fun i hi => .inr (Nat.le_trans h1 (h.row.lt i hi).1)), h.ol.btw hb (fun i hi => .inr (Nat.le_trans h1 (h.ol.row.lt i hi).1)) (fun r hr i hi => .inr (Nat.le_trans h1 ((h.ol.each r hr).lt i hi).1)), (hb.block b h.box.facts.1 (.inr h2)).trans h.box⟩
/-- What the model answered, below block M. -/
structure LWD (M b : Nat) (s : Option Addr) (tn k : Nat) (l : Option Addr) (ln j : Nat) (x st c : Int) (xs : List Value) (ms : List LCl) (W : World) : Prop where
  own : ∃ B, W.ownsRow B 2 1 (.slice s tn k) tn xs ∧ OwC W B (.slice l ln j) ms
  lo : (∀ i, (Value.slice s tn k).ownBlock = some i → i < M) ∧ (∀ i, (Value.slice l ln j).ownBlock = some i → i < M) ∧ ∀ r ∈ ms, ∀ i, r.1.ownBlock = some i → i < M
  box : BoxS W b x (.slice s tn k) (.slice l ln j) st c
theorem LWD.below {M : Nat} (h : LWD M b s tn k l ln j x st c xs ms W) (hb : Below W.heap.size W W') : LWD M b s tn k l ln j x st c xs ms W' := by
  obtain ⟨B, h1, h2⟩ := h.own
  exact ⟨⟨B, own_below h1 hb, h2.below hb⟩, h.lo, h.box.below hb⟩
theorem LWD.down {M X Y : Nat} (h : LWD M b s tn k l ln j x st c xs ms W) (hb : Btw X Y W W') (h1 : M ≤ X) (h2 : b < X) : LWD M b s tn k l ln j x st c xs ms W' := by
  obtain ⟨B, o1, o2⟩ := h.own
  obtain ⟨l1, l2, l3⟩ := h.lo
  exact ⟨⟨B, own_btw o1 hb (fun i hi => .inl (Nat.lt_of_lt_of_le (l1 i hi) h1)), o2.btw hb (fun i hi => .inl (Nat.lt_of_lt_of_le (l2 i hi) h1)) (fun r hr i hi => .inl (Nat.lt_of_lt_of_le (l3 r hr i hi) h1))⟩, h.lo, (hb.block b h.box.facts.1 (.inl h2)).trans h.box⟩
end
/-- The copy that was handed in. -/
structure LXD (vars : Int) (n b4 C4 c1 : Nat) (cs : List LCl) (W : World) : Prop where
  box : CnfAt W b4 vars (some ⟨c1, 0, none⟩) n n
  x0 : CnO C4 W c1 cs
theorem LXD.below {vars : Int} {n b4 C4 c1 : Nat} {cs : List LCl} {W W' : World} (h : LXD vars n b4 C4 c1 cs W) (hb : Below W.heap.size W W') : LXD vars n b4 C4 c1 cs W' := ⟨h.box.below hb, h.x0.below hb⟩

set_option maxRecDepth 100000 in
set_option maxHeartbeats 4000000 in
theorem law4D (vars bud : Int) (sl : Option Addr) (cap : Nat) (cs : List LCl) (w : World) (h : InC w sl cs) (hT : TabB w) :
    Calls Tryd.prog 6 #[CV vars sl cs.length cap, .int .i64 bud] w fun e w' => e = .returned (.bool true) ∧ Below w.heap.size w w' := by
  have hln := h.ln
  unfold maxLen at hln
  have B0 := Lib.hid (bA0 w (.cells #[.int .i64 vars, .slice sl cs.length cap] 45))
  have SZ : Hid (∀ W, Below w.heap.size w W → Calls Tryd.prog 23 #[CV vars sl cs.length cap, .int .i64 1048576] W fun e w' => e = .returned (.int .i64 (lft 1048576 (cs.length + totC cs))) ∧ Below W.heap.size W w') := fun W hW => szC_any vars sl cap cs W h.ln (h.cl.below hW)
  rcases lft_cases 1048576 (cs.length + totC cs) (by omega) with ⟨e, hl⟩ | ⟨e, hl⟩
  · rw [e] at SZ
    clear h e hl
    generalize cs.length = n at *
    go_enter Tryd.func6, Tryd.ntmps6
    go_wp2_with fail
    refine (SZ.out _ B0.out).mono ?_
    rintro e w1 ⟨rfl, b1⟩
    have D1 := Lib.hid (bT B0.out b1)
    clear b1
    go_wp2
    go_ret
    exact ⟨rfl, D1.out⟩
  rw [e] at SZ
  have hneg : ¬ ((1048576 : Int) - ((cs.length + totC cs : Nat) : Int)) < 0 := by omega
  have TC : Hid (∀ W, Below w.heap.size w W → Calls Tryd.prog 25 #[CV vars sl cs.length cap] W fun e w' => ∃ b cs', e = .returned (CV vars (some ⟨b, 0, none⟩) cs.length cs.length) ∧ bareC cs' = bareC cs ∧ CnO W.heap.size w' b cs' ∧ Below W.heap.size W w') := fun W hW => toCO_any vars sl cap cs W (by omega) (by omega) (h.cl.below hW)
  have SP : Hid (∀ b cs' W, bareC cs' = bareC cs → Cls W (some ⟨b, 0, none⟩) cs' → Calls Tryd.prog 18 #[CV vars (some ⟨b, 0, none⟩) cs.length cs.length, .int .i64 bud] W (SPost W (solA vars (bareC cs) bud))) := fun b cs' W e1 c1 => by
    have := sso_any vars bud (some ⟨b, 0, none⟩) cs.length cs' W (by rw [bareC_len e1]; exact h.ln) (by rw [totC_bare e1]; omega) (h.wf.bare e1) c1
    rwa [bareC_len e1, e1] at this
  have IM : Hid (∀ b cs' W, bareC cs' = bareC cs → Cls W (some ⟨b, 0, none⟩) cs' → Below w.heap.size w W → Calls Tryd.prog 19 #[CV vars (some ⟨b, 0, none⟩) cs.length cs.length, .int .i64 bud] W (SPost W (solA vars (bareC cs) bud))) := fun b cs' W e1 c1 hbw => by
    have := iso_any vars bud (some ⟨b, 0, none⟩) cs.length cs' W (by rw [bareC_len e1]; exact h.ln) c1 (h.wf.bare e1).lits (hT.belowT hbw)
    rwa [bareC_len e1, e1] at this
  have EC : Hid (∀ b2 cs2 b3 cs3 W, bareC cs2 = bareC cs → bareC cs3 = bareC cs → Cls W (some ⟨b2, 0, none⟩) cs2 → Cls W (some ⟨b3, 0, none⟩) cs3 → Calls Tryd.prog 29 #[CV vars (some ⟨b2, 0, none⟩) cs.length cs.length, CV vars (some ⟨b3, 0, none⟩) cs.length cs.length] W fun e w' => e = .returned (.bool true) ∧ Below W.heap.size W w') := fun b2 cs2 b3 cs3 W e2 e3 c2 c3 => by
    have := eqC_any vars (some ⟨b2, 0, none⟩) (some ⟨b3, 0, none⟩) cs.length cs.length cs2 cs3 W (by rw [bareC_len e2]; omega) (e2.trans e3.symm) c2 c3
    rwa [bareC_len e2, bareC_len e3] at this
  have MC : Hid (∀ C L b cs' W, bareC cs' = bareC cs → ClM C L W b cs' → Calls Tryd.prog 32 #[CV vars (some ⟨b, 0, none⟩) cs.length cs.length, .int .i64 1] W fun e w' => e = .returned (.int .i64 (1 + (totC cs : Int))) ∧ Btw C L W w') := fun C L b cs' W e1 c => by
    have := mkCM_any vars C L b cs' (by rw [bareC_len e1]; omega) (by rw [totC_bare e1]; omega) W c
    rwa [bareC_len e1, totC_bare e1] at this
  have hk0 : ¬ (1 + (totC cs : Int)) < 0 := by omega
  have ZL := solA_small vars (bareC cs) bud
  clear h e hl
  generalize solA vars (bareC cs) bud = R at *
  obtain ⟨⟨x, T, L, st⟩, c⟩ := R
  obtain ⟨ZT, ZN, ZE⟩ := ZL
  simp only at ZT ZN ZE
  have SP' : Hid (∀ b cs' W, bareC cs' = bareC cs → Cls W (some ⟨b, 0, none⟩) cs' → Calls Tryd.prog 18 #[CV vars (some ⟨b, 0, none⟩) cs.length cs.length, .int .i64 bud] W fun e w' => ∃ (vt vl : Value) (ls : List LCl), e = .returned (.agg #[.int .i64 x, vt, vl, .int .i64 st, .int .i64 c]) ∧ (w'.ownsRow W.heap.size 2 1 vt T.length (valsZ T) ∧ OwC w' W.heap.size vl ls ∧ bareC ls = L ∧ ∀ r ∈ ls, ∀ j, r.1.ownBlock = some j → vt.ownBlock ≠ some j) ∧ Below W.heap.size W w') := fun b cs' W e1 c1 => (SP.out b cs' W e1 c1).mono (fun e w' ⟨vt, vl, ls, a, b, d⟩ => ⟨vt, vl, ls, a, ⟨b.tr, b.ol, b.eq, b.ap⟩, d⟩)
  have IM' : Hid (∀ b cs' W, bareC cs' = bareC cs → Cls W (some ⟨b, 0, none⟩) cs' → Below w.heap.size w W → Calls Tryd.prog 19 #[CV vars (some ⟨b, 0, none⟩) cs.length cs.length, .int .i64 bud] W fun e w' => ∃ (vt vl : Value) (ls : List LCl), e = .returned (.agg #[.int .i64 x, vt, vl, .int .i64 st, .int .i64 c]) ∧ (w'.ownsRow W.heap.size 2 1 vt T.length (valsZ T) ∧ OwC w' W.heap.size vl ls ∧ bareC ls = L ∧ ∀ r ∈ ls, ∀ j, r.1.ownBlock = some j → vt.ownBlock ≠ some j) ∧ Below W.heap.size W w') := fun b cs' W e1 c1 hbw => (IM.out b cs' W e1 c1 hbw).mono (fun e w' ⟨vt, vl, ls, a, b, d⟩ => ⟨vt, vl, ls, a, ⟨b.tr, b.ol, b.eq, b.ap⟩, d⟩)
  clear SP IM
  have LE : Hid (∀ ls : List LCl, bareC ls = L → ls.length = L.length ∧ (∀ r ∈ ls, r.2.length ≤ 1000) ∧ totC ls ≤ 500000000) := fun ls e => by
    have h1 : ls.length = L.length := by rw [← e, bareC_length]
    have h2 : ∀ r ∈ ls, r.2.length ≤ 1000 := fun r hr => ZE r.2 (by rw [← e]; exact List.mem_map.2 ⟨r, hr, rfl⟩)
    exact ⟨h1, h2, by have := tot_le h2; omega⟩
  generalize (1048576 : Int) - ((cs.length + totC cs : Nat) : Int) = z at *
  generalize 1 + (totC cs : Int) = ki at *
  generalize cs.length = n at *
  have EQ : Hid (∀ B b s k l j ls M b' s' k' l' j' ls' W, bareC ls = L → bareC ls' = L → LGD B b s T.length k l L.length j x st c (valsZ T) ls W → LWD M b' s' T.length k' l' L.length j' x st c (valsZ T) ls' W → Calls Tryd.prog 37 #[SA x (.slice s T.length k) (.slice l L.length j) st c, SA x (.slice s' T.length k') (.slice l' L.length j') st c] W fun e w' => e = .returned (.bool true) ∧ Below W.heap.size W w') := fun B b s k l j ls M b' s' k' l' j' ls' W e1 e2 g h => by
    obtain ⟨s1, k1, x1, i1⟩ := own_ints g.row
    cases x1
    obtain ⟨B', o1, o2⟩ := h.own
    obtain ⟨s2, k2, x2, i2⟩ := own_ints o1
    cases x2
    have hl := (LE.out ls e1).1
    have hl' := (LE.out ls' e2).1
    obtain ⟨l1, q1, y1, c1⟩ := g.ol.cls
    rw [hl] at y1
    cases y1
    obtain ⟨l2, q2, y2, c2⟩ := o2.cls
    rw [hl'] at y2
    cases y2
    have := eqSO_any x st c T s s' k k' l l' j j' ls ls' W (by unfold maxLen; omega) (by omega) (e1.trans e2.symm) i1 i2 c1 c2
    rwa [hl] at this
  have MR : Hid (∀ B b s k l j ls W, bareC ls = L → B ≤ W.heap.size → (∀ r ∈ ls, ∀ i, r.1.ownBlock = some i → (Value.slice s T.length k).ownBlock ≠ some i) → LGD B b s T.length k l L.length j x st c (valsZ T) ls W → Calls Tryd.prog 38 #[SA x (.slice s T.length k) (.slice l L.length j) st c, .int .i64 1] W fun e w' => e = .returned (.int .i64 (1 + (T.length : Int) + (totC ls : Int))) ∧ LGD B b s T.length k l L.length j x st c (valsZ (marks 1 T.length)) (mkC (1 + (T.length : Int)) ls) w' ∧ Below B W w' ∧ K30 W w') := fun B b s k l j ls W e1 hB ap g => by
    obtain ⟨h1, h2, h3⟩ := LE.out ls e1
    refine (mkSO_any B x st c T (.slice s T.length k) (.slice l L.length j) ls W (by omega) (by omega) h2 h3 hB g.row g.ol ap).mono ?_
    rintro e w' ⟨rfl, o1, o2, b1, k1⟩
    exact ⟨rfl, ⟨o1, o2, k1 _ _ g.box⟩, b1, k1⟩
  have HH : Hid (∀ B b s k l j ls W, bareC ls = L → LGD B b s T.length k l L.length j x st c (valsZ (marks 1 T.length)) (mkC (1 + (T.length : Int)) ls) W → Calls Tryd.prog 39 #[SA x (.slice s T.length k) (.slice l L.length j) st c, .int .i64 1] W fun e w' => e = .returned (.int .i64 (1 + (T.length : Int) + (totC ls : Int))) ∧ Below W.heap.size W w') := fun B b s k l j ls W e1 g => by
    obtain ⟨h1, h2, h3⟩ := LE.out ls e1
    exact hdSO_any B x st c T.length (.slice s T.length k) (.slice l L.length j) ls W (by omega) (by omega) h2 h3 g.row g.ol
  have QN : Hid (∀ ls : List LCl, ¬ (1 + (T.length : Int) + (totC ls : Int)) < 0) := fun ls => by omega
  have OV : Hid (∀ (W : World) B vt, W.ownsRow B 2 1 vt T.length (valsZ T) → ∃ s k, vt = .slice s T.length k) := fun W B vt o => own_v o
  have OL : Hid (∀ (W : World) B vl ls, bareC ls = L → OwC W B vl ls → ∃ s k, vl = .slice s L.length k) := fun W B vl ls e o => by
    obtain ⟨s, k, h⟩ := o.v
    exact ⟨s, k, by rw [h, (LE.out ls e).1]⟩
  generalize hxm : valsZ (marks 1 T.length) = zm at *
  clear hxm
  generalize hxv : valsZ T = zv at *
  clear hxv
  generalize T.length = tn at *
  generalize L.length = ln at *
  have A0 : Hid (LA w vars sl n cap (w.alloc (.cells #[.int .i64 vars, .slice sl n cap] 45))) := ⟨B0.out, new_at _ _⟩
  clear B0 LE ZE
  go_enter Tryd.func6, Tryd.ntmps6
  go_wp2_with fail
  generalize w.alloc (.cells #[.int .i64 vars, .slice sl n cap] 45) = wA at *
  refine (SZ.out _ A0.out.bel).mono ?_
  rintro e w1 ⟨rfl, b1⟩
  have A1 := Lib.hid (A0.out.below b1)
  clear b1 SZ A0
  obtain ⟨tl, t0, t1⟩ := A1.out.cells
  go_wp2_with fail
  refine (TC.out _ A1.out.bel).mono ?_
  rintro e w2 ⟨b1, cs1, rfl, e1, o1, bl2⟩
  have A2 := Lib.hid (A1.out.below bl2)
  have T2 := Lib.hid (SP'.out b1 cs1 w2 e1 o1.cls)
  clear o1 e1 bl2 A1 tl t0 t1 SP'
  go_wp2_with fail
  refine T2.out.mono ?_
  rintro e w3 ⟨vt0, vl0, ls0, rfl, ⟨q3t, q3o, q3e, q3a⟩, bl3⟩
  obtain ⟨s0, k0, rfl⟩ := OV.out _ _ _ q3t
  obtain ⟨l0, j0, rfl⟩ := OL.out _ _ _ _ q3e q3o
  have E0 : Hid (bareC ls0 = L) := q3e
  have A3 := Lib.hid ((A2.out.below bl3).below (bA0 w3 (.cells #[.int .i64 x, .slice s0 tn k0, .slice l0 ln j0, .int .i64 st, .int .i64 c] 41)))
  have W3 : Hid (LWD w3.heap.size w3.heap.size s0 tn k0 l0 ln j0 x st c zv ls0 (w3.alloc (.cells #[.int .i64 x, .slice s0 tn k0, .slice l0 ln j0, .int .i64 st, .int .i64 c] 41))) := ⟨⟨_, own_below q3t (bA0 _ _), q3o.below (bA0 _ _)⟩, ⟨fun i hi => (q3t.lt i hi).2, fun i hi => (q3o.row.lt i hi).2, fun r hr i hi => ((q3o.each r hr).lt i hi).2⟩, new_at _ _⟩
  have hs3 : w3.heap.size < (w3.alloc (.cells #[.int .i64 x, .slice s0 tn k0, .slice l0 ln j0, .int .i64 st, .int .i64 c] 41)).heap.size := by simp
  clear q3t q3o q3e q3a bl3 T2 A2
  obtain ⟨tl, t0, t1⟩ := A3.out.cells
  have hA3 := tl
  go_wp2_with fail
  generalize w3.alloc (.cells #[.int .i64 x, .slice s0 tn k0, .slice l0 ln j0, .int .i64 st, .int .i64 c] 41) = w3b at *
  refine (TC.out _ A3.out.bel).mono ?_
  rintro e w4 ⟨c1, cs2, rfl, e2, o2, bl4⟩
  have hs4 := bl4.size
  have F4 := Lib.hid (bA0 w4 (.cells #[.int .i64 vars, .slice (some ⟨c1, 0, none⟩) n n] 25))
  have A4 := Lib.hid ((A3.out.below bl4).below F4.out)
  have W4 := Lib.hid ((W3.out.below bl4).below F4.out)
  have E4 := Lib.hid e2
  have M4 := Lib.hid (o2.clM.below F4.out)
  have X4 : Hid (LXD vars n w4.heap.size w3b.heap.size c1 cs2 (w4.alloc (.cells #[.int .i64 vars, .slice (some ⟨c1, 0, none⟩) n n] 25))) := ⟨CnfAt.new w4 vars (some ⟨c1, 0, none⟩) n n, o2.below F4.out⟩
  have hw4 : w4.heap.size < (w4.alloc (.cells #[.int .i64 vars, .slice (some ⟨c1, 0, none⟩) n n] 25)).heap.size := by simp
  clear e2 o2 bl4 A3 W3 tl t0 t1 F4
  obtain ⟨x0, x1⟩ := X4.out.box.cells
  have xl := X4.out.box.lt
  go_wp2_with fail
  generalize w4.alloc (.cells #[.int .i64 vars, .slice (some ⟨c1, 0, none⟩) n n] 25) = w7 at *
  refine (IM'.out c1 cs2 w7 E4.out X4.out.x0.cls A4.out.bel).mono ?_
  rintro e w8 ⟨vt8, vl8, ls8, rfl, ⟨q8t, q8o, q8e, q8a⟩, bl8⟩
  obtain ⟨s8, k8, rfl⟩ := OV.out _ _ _ q8t
  obtain ⟨l8, j8, rfl⟩ := OL.out _ _ _ _ q8e q8o
  have E8' : Hid (bareC ls8 = L) := q8e
  have AP8 : Hid (∀ r ∈ ls8, ∀ i, r.1.ownBlock = some i → (Value.slice s8 tn k8).ownBlock ≠ some i) := q8a
  have hs8 := bl8.size
  have F8 := Lib.hid (bT bl8 (bA0 w8 (.cells #[.int .i64 x, .slice s8 tn k8, .slice l8 ln j8, .int .i64 st, .int .i64 c] 41)))
  have A8 := Lib.hid (A4.out.below F8.out)
  have W8 := Lib.hid (W4.out.below F8.out)
  have M8 := Lib.hid (M4.out.below F8.out)
  have X8 := Lib.hid (X4.out.below F8.out)
  have G8 : Hid (LGD w7.heap.size w8.heap.size s8 tn k8 l8 ln j8 x st c zv ls8 (w8.alloc (.cells #[.int .i64 x, .slice s8 tn k8, .slice l8 ln j8, .int .i64 st, .int .i64 c] 41))) := ⟨own_below q8t (bA0 _ _), q8o.below (bA0 _ _), new_at _ _⟩
  have hw8 : w8.heap.size < (w8.alloc (.cells #[.int .i64 x, .slice s8 tn k8, .slice l8 ln j8, .int .i64 st, .int .i64 c] 41)).heap.size := by simp
  clear q8t q8o q8e q8a bl8 F8 A4 W4 M4 X4 x0 x1 xl
  obtain ⟨y0, y1, y2, y3, y4, y5⟩ := W8.out.box.facts
  obtain ⟨g0, g1, g2, g3, g4, g5⟩ := G8.out.box.facts
  have E8 := Lib.hid (EQ.out _ _ _ _ _ _ _ _ _ _ _ _ _ _ (w8.alloc (.cells #[.int .i64 x, .slice s8 tn k8, .slice l8 ln j8, .int .i64 st, .int .i64 c] 41)) E8'.out E0.out G8.out W8.out)
  go_wp2_with fail
  generalize w8.alloc (.cells #[.int .i64 x, .slice s8 tn k8, .slice l8 ln j8, .int .i64 st, .int .i64 c] 41) = w8b at *
  refine E8.out.mono ?_
  rintro e w9 ⟨rfl, bl9⟩
  have hs9 := bl9.size
  have A9 := Lib.hid (A8.out.below bl9)
  have D9 := Lib.hid A9.out.bel
  have W9 := Lib.hid (W8.out.below bl9)
  have M9 := Lib.hid (M8.out.below bl9)
  have G9 := Lib.hid (G8.out.below bl9)
  have X9 : Hid (∀ W, Below w9.heap.size w9 W → LXD vars n w4.heap.size w3b.heap.size c1 cs2 W) := fun W hW => (X8.out.below bl9).below hW
  clear bl9 E8 A8 W8 M8 G8 X8 y0 y1 y2 y3 y4 y5 g0 g1 g2 g3 g4 g5
  have KX : Hid (∀ W, Below w9.heap.size w9 W → w.heap.size < W.heap.size ∧ w4.heap.size < W.heap.size ∧ W.cell? ⟨w.heap.size, 0, none⟩ = some (.int .i64 vars) ∧ W.cell? ⟨w.heap.size, 1, none⟩ = some (.slice sl n cap) ∧ W.cell? ⟨w4.heap.size, 0, none⟩ = some (.int .i64 vars) ∧ W.cell? ⟨w4.heap.size, 1, none⟩ = some (.slice (some ⟨c1, 0, none⟩) n n)) := fun W hW => by
    obtain ⟨k1, k2, k3⟩ := (A9.out.below hW).cells
    obtain ⟨k4, k5⟩ := (X9.out W hW).box.cells
    exact ⟨k1, (X9.out W hW).box.lt, k2, k3, k4, k5⟩
  go_wp2_with fail
  refine wp_region_held_drew (S := fun W => w.heap.size < W.heap.size ∧ w4.heap.size < W.heap.size ∧ W.cell? ⟨w.heap.size, 0, none⟩ = some (.int .i64 vars) ∧ W.cell? ⟨w.heap.size, 1, none⟩ = some (.slice sl n cap) ∧ W.cell? ⟨w4.heap.size, 0, none⟩ = some (.int .i64 vars) ∧ W.cell? ⟨w4.heap.size, 1, none⟩ = some (.slice (some ⟨c1, 0, none⟩) n n)) (by kernel_rfl) ?_ (fun hHeld => ?_)
  · exact KX.out _ (Below.refl _ _).drew
  refine wpAnyH_take (i := 0) (oi := _) (v := ?_) rfl (by kernel_rfl) (by kernel_rfl) (by kernel_rfl) (fun _ _ _ h => h) (Or.inl ⟨by rfl, ?_⟩) (by assumption) ?_
  rotate_left
  · first | (intro w hSw; (try dsimp only at hSw); go_simp; done) | (intro w hSw; (try dsimp only at hSw); go_simp; with_reducible rfl)
  try simp only [Act.put, List.setIfInBounds_toArray, List.set_cons_zero, List.set_cons_succ, List.getElem_toArray, List.getElem_cons_zero]
  refine wpAnyH_take (i := 1) (oi := _) (v := ?_) rfl (by kernel_rfl) (by kernel_rfl) (by kernel_rfl) (fun _ _ _ h => h) (Or.inl ⟨by rfl, ?_⟩) (by assumption) ?_
  rotate_left
  · first | (intro w hSw; (try dsimp only at hSw); go_simp; done) | (intro w hSw; (try dsimp only at hSw); go_simp; with_reducible rfl)
  try simp only [Act.put, List.setIfInBounds_toArray, List.set_cons_zero, List.set_cons_succ, List.getElem_toArray, List.getElem_cons_succ, List.getElem_cons_zero]
  refine wpAnyH_ready (rs := [2]) (by kernel_rfl) (by simp) ?_
  refine AllReadyH.cons rfl (fun K hK => ?_) AllReadyH.nil
  go_simp
  go_wp2_with (go_at_call 25; refine (TC.out _ D9.out.drew).mono ?_; rintro e w10 ⟨d1, cs3, rfl, e3, o3, b10⟩)
  have F10 : Hid (Below w9.heap.size w9 w10) := bT ((Below.refl w9.heap.size w9).drew) b10
  have O10 := Lib.hid o3.cls
  have E10 := Lib.hid e3
  clear b10 o3 e3
  refine hK.out _ _ ?_ (fun hHeld => ?_)
  · exact KX.out _ F10.out
  clear hK K
  refine wpAnyH_ready (rs := [3]) (by kernel_rfl) (by simp) ?_
  refine AllReadyH.cons rfl (fun K hK => ?_) AllReadyH.nil
  go_simp
  go_wp2_with (go_at_call 29; refine (EC.out c1 cs2 d1 cs3 _ E4.out E10.out (((X9.out _ F10.out).x0).cls) O10.out).mono ?_; rintro e w11 ⟨rfl, b11⟩)
  have F11 : Hid (Below w9.heap.size w9 w11) := bT F10.out b11
  clear b11
  refine hK.out _ _ ?_ (fun hHeld => ?_)
  · exact KX.out _ F11.out
  clear hK K
  refine wpAnyH_take (i := 4) (oi := _) (v := ?_) rfl (by kernel_rfl) (by kernel_rfl) (by kernel_rfl) (fun _ _ _ h => h) (Or.inl ⟨by rfl, ?_⟩) (by assumption) ?_
  rotate_left
  · first | (intro w hSw; (try dsimp only at hSw); go_simp; done) | (intro w hSw; (try dsimp only at hSw); go_simp; with_reducible rfl)
  try simp only [Act.put, List.setIfInBounds_toArray, List.set_cons_zero, List.set_cons_succ, List.getElem_toArray, List.getElem_cons_succ, List.getElem_cons_zero]
  refine wpAnyH_done (by kernel_rfl) ?_ _
  have A15 := Lib.hid (A9.out.below F11.out)
  have W15 := Lib.hid (W9.out.below F11.out)
  have M15 := Lib.hid (M9.out.below F11.out)
  have G15 := Lib.hid (G9.out.below F11.out)
  have X15 := Lib.hid (X9.out _ F11.out)
  have hs15 := F11.out.size
  clear F10 F11 O10 E10 KX A9 D9 W9 M9 G9 X9 EC
  have T15 := Lib.hid (MC.out _ _ c1 cs2 w11 E4.out M15.out)
  obtain ⟨x0, x1⟩ := X15.out.box.cells
  have xl := X15.out.box.lt
  have wl := A15.out.cells.1
  have ws := A15.out.bel.size
  go_wp2_with fail
  refine T15.out.mono ?_
  rintro e w18 ⟨rfl, g16⟩
  have hs18 := g16.size
  have A18 := Lib.hid (A15.out.low (g16.below (by omega)) (by have := M15.out.lo; omega))
  have W18 := Lib.hid (W15.out.down g16 (by omega) (by omega))
  have G18 := Lib.hid (G15.out.up g16 (by omega) (by omega))
  clear g16 T15 A15 W15 M15 G15 X15 x0 x1 xl MC wl
  obtain ⟨y0, y1, y2, y3, y4, y5⟩ := W18.out.box.facts
  obtain ⟨g0, g1, g2, g3, g4, g5⟩ := G18.out.box.facts
  go_wp2_with fail
  refine (EQ.out _ _ _ _ _ _ _ _ _ _ _ _ _ _ w18 E8'.out E0.out G18.out W18.out).mono ?_
  rintro e w19 ⟨rfl, bl19⟩
  have A19 := Lib.hid (A18.out.below bl19)
  have W19 := Lib.hid (W18.out.below bl19)
  have G19 := Lib.hid (G18.out.below bl19)
  have hs19 := bl19.size
  clear bl19 A18 W18 G18 y0 y1 y2 y3 y4 y5 g0 g1 g2 g3 g4 g5
  obtain ⟨g0, g1, g2, g3, g4, g5⟩ := G19.out.box.facts
  have hq0 := QN.out ls8
  have MM := Lib.hid (MR.out _ _ _ _ _ _ ls8 w19 E8'.out (by omega) AP8.out G19.out)
  have HQ := Lib.hid (fun W (g : LGD w7.heap.size w8.heap.size s8 tn k8 l8 ln j8 x st c zm (mkC (1 + (tn : Int)) ls8) W) => HH.out _ _ _ _ _ _ ls8 W E8'.out g)
  clear QN MR HH AP8
  generalize mkC (1 + (tn : Int)) ls8 = ms8 at *
  generalize 1 + (tn : Int) + (totC ls8 : Int) = q at *
  have hqq : (q != q) = false := by simp
  go_wp2_with fail
  refine MM.out.mono ?_
  rintro e w20 ⟨rfl, o20, c20, gr20⟩
  have hs20 := c20.size
  have A20 := Lib.hid (A19.out.low c20 (by omega))
  have W20 := Lib.hid (W19.out.down (BtwOf c20) (by omega) (by omega))
  have G20 := Lib.hid o20
  clear o20 c20 gr20 A19 W19 G19 MM g0 g1 g2 g3 g4 g5
  obtain ⟨g0, g1, g2, g3, g4, g5⟩ := G20.out.box.facts
  go_wp2_with fail
  refine (HQ.out w20 G20.out).mono ?_
  rintro e w21 ⟨rfl, bl21⟩
  have A21 := Lib.hid (A20.out.below bl21)
  have W21 := Lib.hid (W20.out.below bl21)
  have G21 := Lib.hid (G20.out.below bl21)
  clear bl21 A20 W20 G20 g0 g1 g2 g3 g4 g5
  obtain ⟨tl, t0, t1⟩ := A21.out.cells
  go_wp2_with fail
  refine (TC.out _ A21.out.bel).mono ?_
  rintro e w24 ⟨f1, cs4, rfl, e4, o4, bl22⟩
  have F24 := Lib.hid bl22
  have T24 := Lib.hid (IM'.out f1 cs4 w24 e4 o4.cls (A21.out.below bl22).bel)
  clear e4 o4 bl22 tl t0 t1
  go_wp2_with fail
  refine T24.out.mono ?_
  rintro e w25 ⟨vt25, vl25, ls25, rfl, ⟨q25t, q25o, q25e, q25a⟩, bl25⟩
  obtain ⟨s25, k25, rfl⟩ := OV.out _ _ _ q25t
  obtain ⟨l25, j25, rfl⟩ := OL.out _ _ _ _ q25e q25o
  have E25' : Hid (bareC ls25 = L) := q25e
  have F25 := Lib.hid (bT F24.out (bT bl25 (bA0 w25 (.cells #[.int .i64 x, .slice s25 tn k25, .slice l25 ln j25, .int .i64 st, .int .i64 c] 41))))
  have A25 := Lib.hid (A21.out.below F25.out)
  have W25 := Lib.hid (W21.out.below F25.out)
  have G25 := Lib.hid (G21.out.below F25.out)
  have H25 : Hid (LGD w24.heap.size w25.heap.size s25 tn k25 l25 ln j25 x st c zv ls25 (w25.alloc (.cells #[.int .i64 x, .slice s25 tn k25, .slice l25 ln j25, .int .i64 st, .int .i64 c] 41))) := ⟨own_below q25t (bA0 _ _), q25o.below (bA0 _ _), new_at _ _⟩
  clear q25t q25o q25e q25a bl25 F24 F25 T24 A21 W21 G21
  obtain ⟨y0, y1, y2, y3, y4, y5⟩ := W25.out.box.facts
  obtain ⟨g0, g1, g2, g3, g4, g5⟩ := H25.out.box.facts
  have E25 := Lib.hid (EQ.out _ _ _ _ _ _ _ _ _ _ _ _ _ _ (w25.alloc (.cells #[.int .i64 x, .slice s25 tn k25, .slice l25 ln j25, .int .i64 st, .int .i64 c] 41)) E25'.out E0.out H25.out W25.out)
  go_wp2_with fail
  generalize w25.alloc (.cells #[.int .i64 x, .slice s25 tn k25, .slice l25 ln j25, .int .i64 st, .int .i64 c] 41) = w25b at *
  refine E25.out.mono ?_
  rintro e w26 ⟨rfl, bl26⟩
  have A26 := Lib.hid (A25.out.below bl26)
  have G26 := Lib.hid (G25.out.below bl26)
  clear bl26 A25 W25 G25 H25 E25 y0 y1 y2 y3 y4 y5 g0 g1 g2 g3 g4 g5
  obtain ⟨g0, g1, g2, g3, g4, g5⟩ := G26.out.box.facts
  go_wp2_with fail
  refine (HQ.out w26 G26.out).mono ?_
  rintro e w27 ⟨rfl, bl27⟩
  have A27 := Lib.hid (A26.out.below bl27)
  clear bl27 A26 G26 g0 g1 g2 g3 g4 g5
  go_wp2
  go_ret
  exact ⟨rfl, A27.out.bel⟩

end Go.Proofs.YtoobcodlgajieaaDoor
