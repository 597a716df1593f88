/-
  THE VALUE OF A LITERAL: spec.l01Has, both LitValue, the law's walk.
-/
import Derived.Test.YtendehejodgljaaQf
namespace Go.Proofs.Ytendehejodgljaa
open Go.RowKit
set_option linter.unusedVariables false

set_option maxHeartbeats 1000000 in
/-- spec.l01Has. -/
theorem lhas_any (sl : Option Addr) (cap : Nat) (zs : List Int) (x : Int) (w : World) (hn : zs.length ≤ maxLen) (hz : Ints w sl zs) :
    Calls Try.prog 48 #[.slice sl zs.length cap, .int .i64 x] w fun e w' => e = .returned (.bool (B (x ∈ zs))) ∧ w' = w := by
  unfold maxLen at hn
  have HZ := Lib.hid hz
  clear hz
  generalize hR : B (x ∈ zs) = r
  have HR := Lib.hid hR
  clear hR
  generalize hN : zs.length = n at *
  have HN := Lib.hid hN
  clear hN
  go_enter Try.func48, Try.ntmps48
  go_wp2
  go_loopw [5] (fun i wr => ∃ k : Nat, i = .int .i64 k ∧ k ≤ n ∧ Hid (NotIn zs x k) ∧ wr = w) (fun i _ => n - (intOf i).toNat)
  case atStart => exact ⟨0, rfl, Nat.zero_le _, fun i h => absurd h (Nat.not_lt_zero _), rfl⟩
  case round =>
    obtain ⟨k, rfl, hk, NI, rfl⟩ := hrel
    have hk0 : (0 : Int) ≤ (k : Int) := by omega
    by_cases h1 : k < n
    · have h1' : (k : Int) < (n : Int) := by omega
      have hlt : k < zs.length := by rw [HN.out]; exact h1
      obtain ⟨c, o, rfl, ZI⟩ : ∃ c o, sl = some ⟨c, o, none⟩ ∧ IntsAt wr c o zs := by
        rcases HZ.out with e | h
        · rw [e] at hlt; simp at hlt
        · exact h
      have hc := ZI.2 k hlt
      by_cases hx : zs.getD k 0 = x
      · have R := Lib.hid (show r = true by rw [← HR.out]; exact B_yes (by rw [← hx]; simp [hlt]))
        have hx' : (zs.getD k 0 == x) = true := beq_iff_eq.2 hx
        generalize zs.getD k 0 = z at *
        clear hlt ZI hx
        go_wp2
        go_ret
        exact ⟨by rw [R.out]; rfl, rfl⟩
      · have hx' : (zs.getD k 0 == x) = false := beq_eq_false_iff_ne.2 hx
        have NI2 := Lib.hid (show NotIn zs x (k + 1) from fun i hi => by
          by_cases e : i = k
          · subst e; exact hx
          · exact NI.out i (by omega))
        generalize zs.getD k 0 = z at *
        clear hlt ZI hx NI
        go_wp2
        go_roundw
        case rel => exact ⟨k + 1, by go_num, by omega, NI2, trivial⟩
        case measure => simp [intOf]; omega
    · have h1' : ¬ (k : Int) < (n : Int) := by omega
      have R := Lib.hid (show r = false by
        rw [← HR.out]
        refine B_no (notIn_mem ?_)
        have := NI.out
        rwa [show k = zs.length by rw [HN.out]; omega] at this)
      clear NI
      go_wp2
      go_ret
      exact ⟨by rw [R.out]; rfl, rfl⟩

/-- What a literal is by a trail. -/
noncomputable def lvL (zs : List Int) (x : Int) : Int := @ite _ (x ∈ zs) (Classical.propDecidable _) 1 (@ite _ (wrap64 (-x) ∈ zs) (Classical.propDecidable _) (-1) 0)
noncomputable def litF (zs : List Int) (x : Int) : Int := if zs.length ≤ 400 then lvL zs x else 0
theorem lvL_yes {zs : List Int} {x : Int} (h : x ∈ zs) : lvL zs x = 1 := by unfold lvL; rw [if_pos h]
theorem lvL_neg {zs : List Int} {x : Int} (h : x ∉ zs) (h2 : wrap64 (-x) ∈ zs) : lvL zs x = -1 := by unfold lvL; rw [if_neg h, if_pos h2]
theorem lvL_no {zs : List Int} {x : Int} (h : x ∉ zs) (h2 : wrap64 (-x) ∉ zs) : lvL zs x = 0 := by unfold lvL; rw [if_neg h, if_neg h2]
theorem litF_long {zs : List Int} {x : Int} (h : 400 < zs.length) : litF zs x = 0 := by unfold litF; rw [if_neg (by omega)]
theorem litF_short {zs : List Int} {x : Int} (h : zs.length ≤ 400) : litF zs x = lvL zs x := by unfold litF; rw [if_pos h]

set_option maxHeartbeats 1000000 in
/-- impl.LitValue. -/
theorem ilv_any (sl : Option Addr) (cap : Nat) (zs : List Int) (x : Int) (w : World) (hn : zs.length ≤ maxLen) (hz : Ints w sl zs) :
    Calls Try.prog 14 #[.slice sl zs.length cap, .int .i64 x] w fun e w' => e = .returned (.int .i64 (litF zs x)) ∧ Below w.heap.size w w' := by
  unfold maxLen at hn
  by_cases hl : 400 < zs.length
  · rw [litF_long hl]
    have hl' : (400 : Int) < (zs.length : Int) := by omega
    clear hz
    generalize zs.length = n at *
    go_enter Try.func14, Try.ntmps14
    go_wp2
    go_ret
    exact ⟨rfl, Below.refl _ _⟩
  · rw [litF_short (by omega)]
    have hl' : ¬ (400 : Int) < (zs.length : Int) := by omega
    have E : Hid (∀ y W, Below w.heap.size w W → Calls Try.prog 43 #[.slice sl zs.length cap, .int .i64 y] W fun e w' => e = .returned (.bool (B (y ∈ zs))) ∧ Below W.heap.size W w') := fun y W hW => has_any sl cap y zs W (by omega) (hz.below hW)
    clear hz
    by_cases h1 : x ∈ zs
    · have E1 := Lib.hid (E.out x w (Below.refl _ _))
      rw [B_yes h1] at E1
      rw [lvL_yes h1]
      clear E h1
      generalize zs.length = n at *
      go_enter Try.func14, Try.ntmps14
      go_wp2_with fail
      refine E1.out.mono ?_
      rintro e w1 ⟨rfl, b1⟩
      go_wp2
      go_ret
      exact ⟨rfl, b1⟩
    · have E1 := Lib.hid (E.out x w (Below.refl _ _))
      rw [B_no h1] at E1
      have E2 := Lib.hid (E.out (wrap64 (-x)))
      by_cases h2 : wrap64 (-x) ∈ zs
      · rw [lvL_neg h1 h2]
        rw [B_yes h2] at E2
        clear E h1 h2
        generalize zs.length = n at *
        generalize hy : wrap64 (-x) = y at *
        go_enter Try.func14, Try.ntmps14
        go_wp2_with fail
        refine E1.out.mono ?_
        rintro e w1 ⟨rfl, b1⟩
        have P1 := Lib.hid b1
        clear b1
        go_wp2_with fail
        refine (E2.out _ P1.out).mono ?_
        rintro e w2 ⟨rfl, b2⟩
        have P2 := Lib.hid (bT P1.out b2)
        clear b2
        go_wp2
        go_ret
        exact ⟨rfl, P2.out⟩
      · rw [lvL_no h1 h2]
        rw [B_no h2] at E2
        clear E h1 h2
        generalize zs.length = n at *
        generalize hy : wrap64 (-x) = y at *
        go_enter Try.func14, Try.ntmps14
        go_wp2_with fail
        refine E1.out.mono ?_
        rintro e w1 ⟨rfl, b1⟩
        have P1 := Lib.hid b1
        clear b1
        go_wp2_with fail
        refine (E2.out _ P1.out).mono ?_
        rintro e w2 ⟨rfl, b2⟩
        have P2 := Lib.hid (bT P1.out b2)
        clear b2
        go_wp2
        go_ret
        exact ⟨rfl, P2.out⟩

theorem wf_lo {a : Int} (h : wfI a) : -9223372036854775808 ≤ a ∧ a ≤ 9223372036854775807 := by
  unfold wfI at h
  have e1 : IntKind.i64.min = -9223372036854775808 := by rfl
  have e2 : IntKind.i64.max = 9223372036854775807 := by rfl
  simpa [Lit.wf, e1, e2] using h
/-- None of the first k, turned round, is x. -/
def NoNeg (zs : List Int) (x : Int) (k : Nat) : Prop := ∀ i, i < k → zs.getD i 0 ≠ -9223372036854775808 → -zs.getD i 0 ≠ x
theorem noNeg_end {zs : List Int} {x : Int} (hx : wfI x) (h1 : x ∉ zs) (h : NoNeg zs x zs.length) : lvL zs x = 0 := by
  refine lvL_no h1 (fun hm => ?_)
  have := wf_lo hx
  obtain ⟨i, hi, e⟩ := List.getElem_of_mem hm
  by_cases hmin : x = -9223372036854775808
  · refine h1 ?_
    rwa [hmin, show wrap64 (- -9223372036854775808) = -9223372036854775808 by unfold wrap64; omega, ← hmin] at hm
  · have hw : wrap64 (-x) = -x := wrap_in _ ⟨by omega, by omega⟩
    have := h i hi (by simp [hi]; omega)
    simp [hi] at this
    omega
theorem neg_found {zs : List Int} {x : Int} (hx : wfI x) (h1 : x ∉ zs) (i : Nat) (hi : i < zs.length) (e : -zs.getD i 0 = x) (he : zs.getD i 0 ≠ -9223372036854775808) (hw : wfI (zs.getD i 0)) : lvL zs x = -1 := by
  refine lvL_neg h1 ?_
  have := wf_lo hw
  rw [wrap_in _ ⟨by omega, by omega⟩, ← e]
  have : zs.getD i 0 ∈ zs := by simp [hi]
  simpa using this

set_option maxHeartbeats 2000000 in
/-- spec.LitValue. -/
theorem slv_any (sl : Option Addr) (cap : Nat) (zs : List Int) (x : Int) (w : World) (hn : zs.length ≤ maxLen) (hwf : ∀ z ∈ zs, wfI z) (hx : wfI x) (hz : Ints w sl zs) :
    Calls Try.prog 30 #[.slice sl zs.length cap, .int .i64 x] w fun e w' => e = .returned (.int .i64 (litF zs x)) ∧ Below w.heap.size w w' := by
  have hn0 := hn
  unfold maxLen at hn
  by_cases hl : 400 < zs.length
  · rw [litF_long hl]
    have hl' : (400 : Int) < (zs.length : Int) := by omega
    clear hz hwf
    generalize zs.length = n at *
    go_enter Try.func30, Try.ntmps30
    go_wp2
    go_ret
    exact ⟨rfl, Below.refl _ _⟩
  rw [litF_short (by omega)]
  have hl' : ¬ (400 : Int) < (zs.length : Int) := by omega
  have E1 := Lib.hid (lhas_any sl cap zs x w hn0 hz)
  by_cases h1 : x ∈ zs
  · rw [B_yes h1] at E1
    rw [lvL_yes h1]
    clear hz h1 hwf
    generalize zs.length = n at *
    go_enter Try.func30, Try.ntmps30
    go_wp2_with fail
    refine E1.out.mono ?_
    rintro e w1 ⟨rfl, rfl⟩
    go_wp2
    go_ret
    exact ⟨rfl, Below.refl _ _⟩
  rw [B_no h1] at E1
  have HZ := Lib.hid hz
  have NE := Lib.hid (show NoNeg zs x zs.length → lvL zs x = 0 from noNeg_end hx h1)
  have NF := Lib.hid (show ∀ i, i < zs.length → -zs.getD i 0 = x → zs.getD i 0 ≠ -9223372036854775808 → lvL zs x = -1 from fun i hi e he => neg_found hx h1 i hi e he (hwf _ (by simp [hi])))
  have WF := Lib.hid (show ∀ i, i < zs.length → -9223372036854775808 ≤ zs.getD i 0 ∧ zs.getD i 0 ≤ 9223372036854775807 from fun i hi => wf_lo (hwf _ (by simp [hi])))
  clear hz h1 hwf hx hn0
  generalize lvL zs x = r at *
  generalize hN : zs.length = n at *
  have HN := Lib.hid hN
  clear hN
  go_enter Try.func30, Try.ntmps30
  go_wp2_with fail
  refine E1.out.mono ?_
  rintro e w1 ⟨rfl, rfl⟩
  go_wp2
  go_loopw [5] (fun i wr => ∃ k : Nat, i = .int .i64 k ∧ k ≤ n ∧ Hid (NoNeg zs x k) ∧ Hid (Below w1.heap.size w1 wr)) (fun i _ => n - (intOf i).toNat)
  case atStart => exact ⟨0, rfl, Nat.zero_le _, fun i h => absurd h (Nat.not_lt_zero _), Below.refl _ _⟩
  case round =>
    obtain ⟨k, rfl, hk, NI, H2⟩ := hrel
    have hk0 : (0 : Int) ≤ (k : Int) := by omega
    by_cases g1 : k < n
    · have g1' : (k : Int) < (n : Int) := by omega
      have hlt : k < zs.length := by rw [HN.out]; exact g1
      obtain ⟨c, o, rfl, ZI⟩ : ∃ c o, sl = some ⟨c, o, none⟩ ∧ IntsAt w1 c o zs := by
        rcases HZ.out with e | h
        · rw [e] at hlt; simp at hlt
        · exact h
      have hc : wr.cell? ⟨c, o + k, none⟩ = some (.int .i64 (zs.getD k 0)) := (H2.out.cell ZI.1).trans (ZI.2 k hlt)
      have hwk := WF.out k g1
      have NF1 := Lib.hid (NF.out k g1)
      have STEP := Lib.hid (show (zs.getD k 0 ≠ -9223372036854775808 → -zs.getD k 0 ≠ x) → NoNeg zs x (k + 1) from fun g i hi => by
        by_cases e : i = k
        · subst e; exact g
        · exact NI.out i (by omega))
      clear hlt ZI NI
      generalize zs.getD k 0 = z at *
      by_cases hm : z = -9223372036854775808
      · subst hm
        have NI2 := Lib.hid (STEP.out (fun h => absurd rfl h))
        clear STEP NF1
        go_wp2
        go_roundw
        case rel => exact ⟨k + 1, by go_num, by omega, NI2, H2⟩
        case measure => simp [intOf]; omega
      · have hm' : (z == -9223372036854775808) = false := beq_eq_false_iff_ne.2 hm
        have hnz : wrap64 (-z) = -z := wrap_in _ ⟨by omega, by omega⟩
        by_cases hx : -z = x
        · have R := Lib.hid (NF1.out hx hm)
          have hx' : (-z == x) = true := beq_iff_eq.2 hx
          clear STEP NF1 hx
          go_wp2
          go_ret
          exact ⟨by rw [R.out]; rfl, H2.out⟩
        · have NI2 := Lib.hid (STEP.out (fun _ => hx))
          have hx' : (-z == x) = false := beq_eq_false_iff_ne.2 hx
          clear STEP NF1 hx
          go_wp2
          go_roundw
          case rel => exact ⟨k + 1, by go_num, by omega, NI2, H2⟩
          case measure => simp [intOf]; omega
    · have g1' : ¬ (k : Int) < (n : Int) := by omega
      have R := Lib.hid (NE.out (by have := NI.out; rwa [show k = n by omega] at this))
      go_wp2
      go_ret
      exact ⟨by rw [R.out]; rfl, H2.out⟩

set_option maxHeartbeats 2000000 in
theorem law6 (sl : Option Addr) (cap : Nat) (zs : List Int) (x : Int) (w : World) (hn : zs.length ≤ maxLen) (hwf : ∀ z ∈ zs, wfI z) (hx : wfI x) (hz : Ints w sl zs) :
    Calls Try.prog 6 #[.slice sl zs.length cap, .int .i64 x] w fun e w' => e = .returned (.bool true) ∧ Below w.heap.size w w' := by
  have hm := hn
  unfold maxLen at hm
  by_cases hl : 1048576 < zs.length
  · have hl' : (1048576 : Int) < (zs.length : Int) := by omega
    clear hz hwf
    generalize zs.length = n at *
    go_enter Try.func6, Try.ntmps6
    go_wp2
    go_ret
    exact ⟨rfl, Below.refl _ _⟩
  have hl' : ¬ (1048576 : Int) < (zs.length : Int) := by omega
  have TP : Hid (∀ W, Below w.heap.size w W → Calls Try.prog 19 #[.slice sl zs.length cap] W fun e w' => e = .returned (.slice (some ⟨W.heap.size, 0, none⟩) zs.length zs.length) ∧ Ints w' (some ⟨W.heap.size, 0, none⟩) zs ∧ Below W.heap.size W w') := fun W hW => to_any sl cap zs W (by omega) (hz.below hW)
  have EQ : Hid (∀ c d W, Ints W (some ⟨c, 0, none⟩) zs → Ints W (some ⟨d, 0, none⟩) zs → Calls Try.prog 23 #[.slice (some ⟨c, 0, none⟩) zs.length zs.length, .slice (some ⟨d, 0, none⟩) zs.length zs.length] W fun e w' => e = .returned (.bool true) ∧ Below W.heap.size W w') := fun c d W a b => eq_any _ _ _ _ zs W hn a b
  have SP : Hid (∀ c W, Ints W (some ⟨c, 0, none⟩) zs → Calls Try.prog 30 #[.slice (some ⟨c, 0, none⟩) zs.length zs.length, .int .i64 x] W fun e w' => e = .returned (.int .i64 (litF zs x)) ∧ Below W.heap.size W w') := fun c W i => slv_any _ _ zs x W hn hwf hx i
  have IM : Hid (∀ c W, Ints W (some ⟨c, 0, none⟩) zs → Calls Try.prog 14 #[.slice (some ⟨c, 0, none⟩) zs.length zs.length, .int .i64 x] W fun e w' => e = .returned (.int .i64 (litF zs x)) ∧ Below W.heap.size W w') := fun c W i => ilv_any _ _ zs x W hn i
  clear hz hwf hx hn
  generalize litF zs x = r at *
  generalize zs.length = n at *
  have hrr : (r != r) = false := by simp
  go_enter Try.func6, Try.ntmps6
  go_wp2_with fail
  refine (TP.out _ (Below.refl _ _)).mono ?_
  rintro e w1 ⟨rfl, i1, b1⟩
  have D1 := Lib.hid b1
  have T1 := Lib.hid (SP.out _ w1 i1)
  clear b1 i1
  go_wp2_with fail
  refine T1.out.mono ?_
  rintro e w2 ⟨rfl, b2⟩
  have D2 := Lib.hid (bT D1.out b2)
  clear b2 D1 T1
  go_wp2_with fail
  refine (TP.out _ D2.out).mono ?_
  rintro e w3 ⟨rfl, i3, b3⟩
  have D3 := Lib.hid (bT D2.out b3)
  have I3 := Lib.hid i3
  clear b3 i3 D2
  go_wp2_with fail
  refine (IM.out _ w3 I3.out).mono ?_
  rintro e w4 ⟨rfl, b4⟩
  have D4 := Lib.hid (bT D3.out b4)
  have I4 := Lib.hid (I3.out.below b4)
  clear b4 I3 D3
  go_wp2_with fail
  refine (TP.out _ D4.out).mono ?_
  rintro e w5 ⟨rfl, i5, b5⟩
  have D5 := Lib.hid (bT D4.out b5)
  have T5 := Lib.hid (EQ.out _ _ w5 (I4.out.below b5) i5)
  clear b5 i5 I4 D4
  go_wp2_with fail
  refine T5.out.mono ?_
  rintro e w6 ⟨rfl, b6⟩
  have D6 := Lib.hid (bT D5.out b6)
  clear b6 D5 T5
  go_wp2
  go_ret
  exact ⟨rfl, D6.out⟩

end Go.Proofs.Ytendehejodgljaa
