/-
  THE FIRST CLAUSE THAT IS NOT TRUE: impl.CnfFault, impl.CnfTrue.
-/
import Derived.Test.YtdmfljejlhlbnaaRa
namespace Go.Proofs.Ytdmfljejlhlbnaa
open Go.RowKit
set_option linter.unusedVariables false

/-- The first k clauses are true. -/
def TrTo (ts : List Int) (zss : List (List Int)) (k : Nat) : Prop := ∀ i, i < k → ClT ts (zss.getD i [])
theorem TrTo.zero (ts : List Int) (zss : List (List Int)) : TrTo ts zss 0 := fun i h => absurd h (Nat.not_lt_zero _)
theorem TrTo.step {ts : List Int} {zss : List (List Int)} {k : Nat} (h : TrTo ts zss k) (g : ClT ts (zss.getD k [])) : TrTo ts zss (k + 1) := fun i hi => by
  by_cases e : i = k
  · subst e; exact g
  · exact h i (by omega)
def FstNo (ts : List Int) (zss : List (List Int)) (k : Nat) : Prop := k < zss.length ∧ TrTo ts zss k ∧ ¬ ClT ts (zss.getD k [])
open Classical in
/-- The place of the first clause that is not true; -1 if all are. -/
noncomputable def fF (ts : List Int) (zss : List (List Int)) : Int := if h : ∃ k, FstNo ts zss k then (Classical.choose h : Nat) else -1
theorem fF_at {ts : List Int} {zss : List (List Int)} {k : Nat} (h : FstNo ts zss k) : fF ts zss = k := by
  have hex : ∃ k, FstNo ts zss k := ⟨k, h⟩
  unfold fF
  rw [dif_pos hex]
  have hs := Classical.choose_spec hex
  generalize Classical.choose hex = j at *
  have : ¬ j < k := fun g => hs.2.2 (h.2.1 j g)
  have : ¬ k < j := fun g => h.2.2 (hs.2.1 k g)
  omega
theorem fF_all {ts : List Int} {zss : List (List Int)} {k : Nat} (hk : zss.length ≤ k) (h : TrTo ts zss k) : fF ts zss = -1 := by
  unfold fF
  rw [dif_neg]
  rintro ⟨j, g⟩
  exact g.2.2 (h j (by have := g.1; omega))
open Classical in
/-- What CnfFault answers. -/
noncomputable def fC (vars : Int) (zss : List (List Int)) (ts : List Int) : Int := if 400 < ts.length then 0 else if CnfR vars zss ∧ InRise 1 vars ts then fF ts zss else -2
theorem fC_long {vars : Int} {zss : List (List Int)} {ts : List Int} (h : 400 < ts.length) : fC vars zss ts = 0 := by unfold fC; rw [if_pos h]
theorem fC_no {vars : Int} {zss : List (List Int)} {ts : List Int} (h : ¬ 400 < ts.length) (g : ¬ (CnfR vars zss ∧ InRise 1 vars ts)) : fC vars zss ts = -2 := by unfold fC; rw [if_neg h, if_neg g]
theorem fC_yes {vars : Int} {zss : List (List Int)} {ts : List Int} (h : ¬ 400 < ts.length) (g : CnfR vars zss ∧ InRise 1 vars ts) : fC vars zss ts = fF ts zss := by unfold fC; rw [if_neg h, if_pos g]

set_option maxRecDepth 100000 in
set_option maxHeartbeats 4000000 in
/-- impl.CnfFault. -/
theorem icf_any (vars : Int) (sl : Option Addr) (cap : Nat) (cs : List LCl) (sl2 : Option Addr) (cap2 : Nat) (ts : List Int) (w : World) (hn : cs.length ≤ maxLen) (hm : ts.length ≤ maxLen) (hz : Cls w sl cs) (ht : Ints w sl2 ts) :
    Calls Try.prog 31 #[CV vars sl cs.length cap, .slice sl2 ts.length cap2] w fun e w' => e = .returned (.int .i64 (fC vars (bareC cs) ts)) ∧ Below w.heap.size w w' := by
  have CA := Lib.hid (CnfAt.new w vars sl cs.length cap)
  have B0 := Lib.hid (bA0 w (.cells #[.int .i64 vars, .slice sl cs.length cap] 45))
  have HB := Lib.hid (bareC_length cs)
  by_cases c1 : 400 < ts.length
  · rw [fC_long c1]
    have c1' : (400 : Int) < (ts.length : Int) := by omega
    clear hz ht HB
    unfold maxLen at hm
    generalize cs.length = n at *
    generalize ts.length = m at *
    go_enter Try.func31, Try.ntmps31
    go_wp2
    go_ret
    exact ⟨rfl, B0.out⟩
  have c1' : ¬ (400 : Int) < (ts.length : Int) := by omega
  have E1 : Hid (∀ W, Below w.heap.size w W → Calls Try.prog 27 #[CV vars sl cs.length cap] W fun e w' => e = .returned (.bool (B (CnfR vars (bareC cs)))) ∧ Below W.heap.size W w') := fun W hW => icr_any vars sl cap cs W hn (hz.below hW)
  have E2 : Hid (∀ W, Below w.heap.size w W → Calls Try.prog 92 #[.slice sl2 ts.length cap2, .int .i64 1, .int .i64 vars] W fun e w' => e = .returned (.bool (B (InRise 1 vars ts))) ∧ Below W.heap.size W w') := fun W hW => rw_any 1 vars sl2 cap2 ts W hm (ht.below hW)
  unfold maxLen at hm hn
  cases hb : B (CnfR vars (bareC cs)) with
  | false =>
    rw [fC_no c1 (fun g => B_false hb g.1)]
    rw [hb] at E1
    clear hb hz ht HB E2
    generalize cs.length = n at *
    generalize ts.length = m at *
    go_enter Try.func31, Try.ntmps31
    go_wp2_with fail
    refine (E1.out _ B0.out).mono ?_
    rintro e w1 ⟨rfl, b1⟩
    have D1 := Lib.hid (bT B0.out b1)
    clear b1 E1
    go_wp2
    go_ret
    exact ⟨rfl, D1.out⟩
  | true =>
    rw [hb] at E1
    cases hc : B (InRise 1 vars ts) with
    | false =>
      rw [fC_no c1 (fun g => B_false hc g.2)]
      rw [hc] at E2
      clear hb hc hz ht HB
      generalize cs.length = n at *
      generalize ts.length = m at *
      go_enter Try.func31, Try.ntmps31
      go_wp2_with fail
      refine (E1.out _ B0.out).mono ?_
      rintro e w1 ⟨rfl, b1⟩
      have D1 := Lib.hid (bT B0.out b1)
      have TA := CA.out.below b1
      obtain ⟨t0, t1⟩ := TA.cells
      have tl := TA.lt
      clear b1 E1 TA
      go_wp2_with fail
      refine (E2.out _ D1.out).mono ?_
      rintro e w2 ⟨rfl, b2⟩
      have D2 := Lib.hid (bT D1.out b2)
      clear b2 E2
      go_wp2
      go_ret
      exact ⟨rfl, D2.out⟩
    | true =>
      rw [hc] at E2
      have CR := Lib.hid (B_true hb)
      have FV := Lib.hid (fC_yes c1 ⟨B_true hb, B_true hc⟩)
      have YY := Lib.hid (show ∀ k, cs.length ≤ k → TrTo ts (bareC cs) k → fC vars (bareC cs) ts = -1 from fun k hk h => FV.out.trans (fF_all (by rw [HB.out]; exact hk) h))
      have NN := Lib.hid (show ∀ k, k < cs.length → TrTo ts (bareC cs) k → ¬ ClT ts ((bareC cs).getD k []) → fC vars (bareC cs) ts = k from fun k hk h g => FV.out.trans (fF_at ⟨by rw [HB.out]; exact hk, h, g⟩))
      have HZ := Lib.hid hz
      have HT := Lib.hid ht
      have HM := Lib.hid (show ts.length ≤ 1048576 by omega)
      have HC := Lib.hid (show ∀ r ∈ cs, r.2.length ≤ 1048576 from fun r hr => by
        obtain ⟨k, h, rfl⟩ := List.getElem_of_mem hr
        have := (CR.out.2.2 k (by rw [HB.out]; exact h)).1
        rw [bareC_get h] at this
        omega)
      clear hz ht HB hb hc FV CR
      generalize hN : cs.length = n at *
      have HN := Lib.hid hN
      clear hN
      have EK : Hid (∀ r ∈ cs, ∀ s1 k1 W, Below w.heap.size w W → Ints W s1 r.2 → Calls Try.prog 93 #[.slice s1 r.2.length k1, .slice sl2 ts.length cap2] W fun e w' => e = .returned (.bool (B (ClT ts r.2))) ∧ Below W.heap.size W w') := fun r h s1 k1 W hW i => clt_any s1 k1 r.2 sl2 cap2 ts W (HC.out r h) HM.out i (HT.out.below hW)
      clear HT HM HC
      generalize ts.length = m at *
      go_enter Try.func31, Try.ntmps31
      go_wp2_with fail
      refine (E1.out _ B0.out).mono ?_
      rintro e w1 ⟨rfl, b1⟩
      have D1 := Lib.hid (bT B0.out b1)
      have TA := CA.out.below b1
      obtain ⟨t0, t1⟩ := TA.cells
      have tl := TA.lt
      have CA1 := Lib.hid TA
      clear b1 E1 TA CA
      go_wp2_with fail
      refine (E2.out _ D1.out).mono ?_
      rintro e w2 ⟨rfl, b2⟩
      have D2 := Lib.hid (bT D1.out b2)
      have TA := CA1.out.below b2
      clear t0 t1 tl
      obtain ⟨t0, t1⟩ := TA.cells
      have tl := TA.lt
      have CA2 := Lib.hid TA
      clear b2 E2 TA CA1 D1
      go_wp2
      clear t0 t1 tl
      go_loopw [23] (fun i wr => ∃ k : Nat, i = .int .i64 k ∧ k ≤ n ∧ Hid (TrTo ts (bareC cs) k) ∧ Hid (Below w2.heap.size w2 wr)) (fun i _ => n - (intOf i).toNat)
      case atStart => exact ⟨0, rfl, Nat.zero_le _, TrTo.zero _ _, Below.refl _ _⟩
      case round =>
        obtain ⟨k, rfl, hk, IT, H2⟩ := hrel
        have hk0 : (0 : Int) ≤ (k : Int) := by omega
        have DW := Lib.hid (bT D2.out H2.out)
        by_cases g1 : k < n
        · have g1' : (k : Int) < (n : Int) := by omega
          have hlt : k < cs.length := by rw [HN.out]; exact g1
          obtain ⟨c, o, rfl, Z0⟩ := HZ.out.at hlt
          have hc := (Z0.below DW.out).2 k hlt
          obtain ⟨s1, k1, v1, i1, l1⟩ := (HZ.out.each cs[k] (List.getElem_mem hlt)).below DW.out
          rw [v1] at hc
          have E := Lib.hid (EK.out cs[k] (List.getElem_mem hlt) s1 k1 wr DW.out i1)
          have BG := Lib.hid (bareC_get hlt)
          cases hb : B (ClT ts cs[k].2) with
          | true =>
            rw [hb] at E
            have IT2 := Lib.hid (IT.out.step (by rw [BG.out]; exact B_true hb))
            clear hb IT i1 l1 Z0 v1 BG
            generalize cs[k].2.length = q at *
            clear hlt EK
            go_wp2_with fail
            refine E.out.mono ?_
            rintro e w5 ⟨rfl, b5⟩
            have D5 := Lib.hid (bT H2.out b5)
            clear b5 E
            go_wp2
            go_roundw
            case rel => exact ⟨k + 1, by go_num, by omega, IT2, D5⟩
            case measure => simp [intOf]; omega
          | false =>
            rw [hb] at E
            have NO := Lib.hid (NN.out k g1 IT.out (by rw [BG.out]; exact B_false hb))
            clear hb IT i1 l1 Z0 v1 BG
            generalize cs[k].2.length = q at *
            clear hlt EK
            go_wp2_with fail
            refine E.out.mono ?_
            rintro e w5 ⟨rfl, b5⟩
            have D5 := Lib.hid (bT DW.out b5)
            clear b5 E
            go_wp2
            go_ret
            exact ⟨by rw [NO.out]; rfl, D5.out⟩
        · have g1' : ¬ (k : Int) < (n : Int) := by omega
          have YES := Lib.hid (YY.out k (by omega) IT.out)
          clear IT EK
          go_wp2
          go_ret
          exact ⟨by rw [YES.out]; rfl, DW.out⟩

set_option maxRecDepth 100000 in
set_option maxHeartbeats 1000000 in
/-- impl.CnfTrue. -/
theorem ict_any (vars : Int) (sl : Option Addr) (cap : Nat) (cs : List LCl) (sl2 : Option Addr) (cap2 : Nat) (ts : List Int) (w : World) (hn : cs.length ≤ maxLen) (hm : ts.length ≤ maxLen) (hz : Cls w sl cs) (ht : Ints w sl2 ts) :
    Calls Try.prog 30 #[CV vars sl cs.length cap, .slice sl2 ts.length cap2] w fun e w' => e = .returned (.bool (fC vars (bareC cs) ts == -1)) ∧ Below w.heap.size w w' := by
  have B0 := Lib.hid (bA0 w (.cells #[.int .i64 vars, .slice sl cs.length cap] 45))
  have E1 := Lib.hid (icf_any vars sl cap cs sl2 cap2 ts _ hn hm (hz.below B0.out) (ht.below B0.out))
  clear hz ht hn hm
  generalize fC vars (bareC cs) ts = f at *
  generalize cs.length = n at *
  generalize ts.length = m at *
  go_enter Try.func30, Try.ntmps30
  go_wp2_with fail
  refine E1.out.mono ?_
  rintro e w1 ⟨rfl, b1⟩
  have D1 := Lib.hid (bT B0.out b1)
  clear b1 E1
  go_wp2
  go_ret
  exact ⟨rfl, D1.out⟩

end Go.Proofs.Ytdmfljejlhlbnaa
