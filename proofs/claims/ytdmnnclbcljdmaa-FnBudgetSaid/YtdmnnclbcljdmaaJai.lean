/-
  DOES A LIST RISE WITHIN BOUNDS?
  THE FIRST CLAUSE THAT IS NOT TRUE: impl.CnfFault, impl.CnfTrue.
  WHAT FNBUDGET ASKS OF AN ANSWER, as lists.
  CLAUSES AND A BUDGET, DRAWN: what DrawSolve answers.
  NUMBERS COPIED AND COMPARED, AND LISTS OF THEM: lwCopy, lwSame, lwLists.
  COPIES WITH MEMORY OF THEIR OWN; marks over them; what an answer of a run is held against, marked and held by.
  CLAUSES MARKED AND HELD: markInt64SS, heldInt64SS, markCnf, heldCnf, over clauses that are owned.
  AN ANSWER OF THE SOLVER, held against another one, marked, and held by its marks: eqSolveOut, markSolveOut, heldSolveOut.
  THE LAW OF SOLVE: the walk.
-/
import Derived.Test.YtdmnnclbcljdmaaJaa
import Derived.Test.YtdmnnclbcljdmaaJah
import Derived.Test.YtdmnnclbcljdmaaJad
import Derived.Test.YtdmnnclbcljdmaaJab
import Derived.Test.YtdmnnclbcljdmaaJac
import Derived.Test.YtdmnnclbcljdmaaJag
import Derived.Test.YtdmnnclbcljdmaaJaf
namespace Go.Proofs.Ytdmnnclbcljdmaa
open Go.RowKit
set_option linter.unusedVariables false

set_option maxHeartbeats 400000 in
theorem rw_nil (lo hi : Int) (sl : Option Addr) (cap : Nat) (w : World) :
    Calls Try.prog 60 #[.slice sl 0 cap, .int .i64 lo, .int .i64 hi] w fun e w' => e = .returned (.bool true) ∧ w' = w := by
  go_enter Try.func60, Try.ntmps60
  go_wp2
  refine wp_loop_rounds 1 ?_
  rw [rounds_succ]
  go_wp2
  go_ret
  exact ⟨rfl, rfl⟩

set_option maxHeartbeats 1000000 in
theorem rw_some (lo hi : Int) (c o cap : Nat) (zs : List Int) (w : World) (hn : zs.length ≤ maxLen) (hz : IntsAt w c o zs) :
    Calls Try.prog 60 #[.slice (some ⟨c, o, none⟩) zs.length cap, .int .i64 lo, .int .i64 hi] w fun e w' => e = .returned (.bool (B (InRise lo hi zs))) ∧ Below w.heap.size w w' := by
  unfold maxLen at hn
  have HZ := Lib.hid hz
  clear hz
  generalize hN : zs.length = n at *
  have HN := Lib.hid hN
  clear hN
  go_enter Try.func60, Try.ntmps60
  go_wp2
  go_loopw [11] (fun i wr => ∃ k : Nat, i = .int .i64 k ∧ k ≤ n ∧ Hid (UpTo lo hi zs k) ∧ Hid (Below w.heap.size w wr)) (fun i _ => n - (intOf i).toNat)
  case atStart => exact ⟨0, rfl, Nat.zero_le _, UpTo.zero _ _ _, Below.refl _ _⟩
  case round =>
    obtain ⟨k, rfl, hk, H1, H2⟩ := hrel
    have hk0 : (0 : Int) ≤ (k : Int) := by omega
    by_cases h1 : k < n
    · have h1' : (k : Int) < (n : Int) := by omega
      have hlt : k < zs.length := by rw [HN.out]; exact h1
      have hc : wr.cell? ⟨c, o + k, none⟩ = some (.int .i64 (zs.getD k 0)) := (H2.out.cell HZ.out.1).trans (HZ.out.2 k hlt)
      by_cases a1 : zs.getD k 0 < lo
      · have HF := Lib.hid (B_no (UpTo.no (lo := lo) (hi := hi) hlt (fun g => by have := g.1; omega)))
        clear hlt
        generalize zs.getD k 0 = z at *
        go_wp2
        go_ret
        exact ⟨by rw [HF.out]; rfl, H2.out⟩
      · by_cases a2 : hi < zs.getD k 0
        · have HF := Lib.hid (B_no (UpTo.no (lo := lo) (hi := hi) hlt (fun g => by have := g.2.1; omega)))
          clear hlt
          generalize zs.getD k 0 = z at *
          go_wp2
          go_ret
          exact ⟨by rw [HF.out]; rfl, H2.out⟩
        · by_cases a3 : 0 < k
          · have a3' : (0 : Int) < (k : Int) := by omega
            have ek : ((k : Int) - 1).toNat = k - 1 := by omega
            have hd : wr.cell? ⟨c, o + (k - 1), none⟩ = some (.int .i64 (zs.getD (k - 1) 0)) := (H2.out.cell HZ.out.1).trans (HZ.out.2 (k - 1) (by omega))
            by_cases a4 : zs.getD k 0 ≤ zs.getD (k - 1) 0
            · have HF := Lib.hid (B_no (UpTo.no (lo := lo) (hi := hi) hlt (fun g => by have := g.2.2 a3; omega)))
              clear hlt
              generalize zs.getD k 0 = z at *
              generalize zs.getD (k - 1) 0 = y at *
              go_wp2
              go_ret
              exact ⟨by rw [HF.out]; rfl, H2.out⟩
            · have HS := Lib.hid (H1.out.step (by omega) (by omega) (fun _ => by omega))
              clear hlt
              generalize zs.getD k 0 = z at *
              generalize zs.getD (k - 1) 0 = y at *
              go_wp2
              go_roundw
              case rel => exact ⟨k + 1, by go_num, by omega, HS, H2⟩
              case measure => simp [intOf]; omega
          · have a3' : k = 0 := by omega
            have HS := Lib.hid (H1.out.step (by omega) (by omega) (fun h => absurd h a3))
            clear hlt
            generalize zs.getD k 0 = z at *
            have a5 : ¬ (0 : Int) < (k : Int) := by omega
            clear a3'
            go_wp2
            go_roundw
            case rel => exact ⟨k + 1, by go_num, by omega, HS, H2⟩
            case measure => simp [intOf]; omega
    · have h1' : ¬ (k : Int) < (n : Int) := by omega
      have HE : Hid (B (InRise lo hi zs) = true) := B_yes (by have := H1.out; rwa [show k = zs.length by rw [HN.out]; omega] at this)
      go_wp2
      go_ret
      exact ⟨by rw [HE.out]; rfl, H2.out⟩
theorem rw_any (lo hi : Int) (sl : Option Addr) (cap : Nat) (zs : List Int) (w : World) (hn : zs.length ≤ maxLen) (hz : Ints w sl zs) :
    Calls Try.prog 60 #[.slice sl zs.length cap, .int .i64 lo, .int .i64 hi] w fun e w' => e = .returned (.bool (B (InRise lo hi zs))) ∧ Below w.heap.size w w' := by
  rcases hz with rfl | ⟨c, o, rfl, h⟩
  · rw [B_yes (show InRise lo hi [] from UpTo.zero lo hi [])]
    refine (rw_nil lo hi sl cap w).mono ?_
    rintro e w' ⟨rfl, rfl⟩
    exact ⟨rfl, Below.refl _ _⟩
  · exact rw_some lo hi c o cap zs w hn h


end Go.Proofs.Ytdmnnclbcljdmaa
namespace Go.Proofs.Ytdmnnclbcljdmaa
open Go.RowKit
set_option linter.unusedVariables false

/-- The first k clauses are true. -/
def TrTo (ts : List Int) (zss : List (List Int)) (k : Nat) : Prop := ∀ i, i < k → ClT ts (zss.getD i [])
theorem TrTo.zero (ts : List Int) (zss : List (List Int)) : TrTo ts zss 0 := fun i h => absurd h (Nat.not_lt_zero _)
theorem TrTo.step {ts : List Int} {zss : List (List Int)} {k : Nat} (h : TrTo ts zss k) (g : ClT ts (zss.getD k [])) : TrTo ts zss (k + 1) := fun i hi => by
  by_cases e : i = k
  · subst e; exact g
  · exact h i (by omega)
def FstNo (ts : List Int) (zss : List (List Int)) (k : Nat) : Prop := k < zss.length ∧ TrTo ts zss k ∧ ¬ ClT ts (zss.getD k [])
open Classical in
/-- The place of the first clause that is not true; -1 if all are. -/
noncomputable def fF (ts : List Int) (zss : List (List Int)) : Int := if h : ∃ k, FstNo ts zss k then (Classical.choose h : Nat) else -1
theorem fF_at {ts : List Int} {zss : List (List Int)} {k : Nat} (h : FstNo ts zss k) : fF ts zss = k := by
  have hex : ∃ k, FstNo ts zss k := ⟨k, h⟩
  unfold fF
  rw [dif_pos hex]
  have hs := Classical.choose_spec hex
  generalize Classical.choose hex = j at *
  have : ¬ j < k := fun g => hs.2.2 (h.2.1 j g)
  have : ¬ k < j := fun g => h.2.2 (hs.2.1 k g)
  omega
theorem fF_all {ts : List Int} {zss : List (List Int)} {k : Nat} (hk : zss.length ≤ k) (h : TrTo ts zss k) : fF ts zss = -1 := by
  unfold fF
  rw [dif_neg]
  rintro ⟨j, g⟩
  exact g.2.2 (h j (by have := g.1; omega))
open Classical in
/-- What CnfFault answers. -/
noncomputable def fC (vars : Int) (zss : List (List Int)) (ts : List Int) : Int := if 400 < ts.length then 0 else if CnfR vars zss ∧ InRise 1 vars ts then fF ts zss else -2
theorem fC_long {vars : Int} {zss : List (List Int)} {ts : List Int} (h : 400 < ts.length) : fC vars zss ts = 0 := by unfold fC; rw [if_pos h]
theorem fC_no {vars : Int} {zss : List (List Int)} {ts : List Int} (h : ¬ 400 < ts.length) (g : ¬ (CnfR vars zss ∧ InRise 1 vars ts)) : fC vars zss ts = -2 := by unfold fC; rw [if_neg h, if_neg g]
theorem fC_yes {vars : Int} {zss : List (List Int)} {ts : List Int} (h : ¬ 400 < ts.length) (g : CnfR vars zss ∧ InRise 1 vars ts) : fC vars zss ts = fF ts zss := by unfold fC; rw [if_neg h, if_pos g]

set_option maxRecDepth 100000 in
set_option maxHeartbeats 4000000 in
/-- impl.CnfFault. -/
theorem icf_any (vars : Int) (sl : Option Addr) (cap : Nat) (cs : List LCl) (sl2 : Option Addr) (cap2 : Nat) (ts : List Int) (w : World) (hn : cs.length ≤ maxLen) (hm : ts.length ≤ maxLen) (hz : Cls w sl cs) (ht : Ints w sl2 ts) :
    Calls Try.prog 34 #[CV vars sl cs.length cap, .slice sl2 ts.length cap2] w fun e w' => e = .returned (.int .i64 (fC vars (bareC cs) ts)) ∧ Below w.heap.size w w' := by
  have CA := Lib.hid (CnfAt.new w vars sl cs.length cap)
  have B0 := Lib.hid (bA0 w (.cells #[.int .i64 vars, .slice sl cs.length cap] 25))
  have HB := Lib.hid (bareC_length cs)
  by_cases c1 : 400 < ts.length
  · rw [fC_long c1]
    have c1' : (400 : Int) < (ts.length : Int) := by omega
    clear hz ht HB
    unfold maxLen at hm
    generalize cs.length = n at *
    generalize ts.length = m at *
    go_enter Try.func34, Try.ntmps34
    go_wp2
    go_ret
    exact ⟨rfl, B0.out⟩
  have c1' : ¬ (400 : Int) < (ts.length : Int) := by omega
  have E1 : Hid (∀ W, Below w.heap.size w W → Calls Try.prog 29 #[CV vars sl cs.length cap] W fun e w' => e = .returned (.bool (B (CnfR vars (bareC cs)))) ∧ Below W.heap.size W w') := fun W hW => icr_any vars sl cap cs W hn (hz.below hW)
  have E2 : Hid (∀ W, Below w.heap.size w W → Calls Try.prog 60 #[.slice sl2 ts.length cap2, .int .i64 1, .int .i64 vars] W fun e w' => e = .returned (.bool (B (InRise 1 vars ts))) ∧ Below W.heap.size W w') := fun W hW => rw_any 1 vars sl2 cap2 ts W hm (ht.below hW)
  unfold maxLen at hm hn
  cases hb : B (CnfR vars (bareC cs)) with
  | false =>
    rw [fC_no c1 (fun g => B_false hb g.1)]
    rw [hb] at E1
    clear hb hz ht HB E2
    generalize cs.length = n at *
    generalize ts.length = m at *
    go_enter Try.func34, Try.ntmps34
    go_wp2_with fail
    refine (E1.out _ B0.out).mono ?_
    rintro e w1 ⟨rfl, b1⟩
    have D1 := Lib.hid (bT B0.out b1)
    clear b1 E1
    go_wp2
    go_ret
    exact ⟨rfl, D1.out⟩
  | true =>
    rw [hb] at E1
    cases hc : B (InRise 1 vars ts) with
    | false =>
      rw [fC_no c1 (fun g => B_false hc g.2)]
      rw [hc] at E2
      clear hb hc hz ht HB
      generalize cs.length = n at *
      generalize ts.length = m at *
      go_enter Try.func34, Try.ntmps34
      go_wp2_with fail
      refine (E1.out _ B0.out).mono ?_
      rintro e w1 ⟨rfl, b1⟩
      have D1 := Lib.hid (bT B0.out b1)
      have TA := CA.out.below b1
      obtain ⟨t0, t1⟩ := TA.cells
      have tl := TA.lt
      clear b1 E1 TA
      go_wp2_with fail
      refine (E2.out _ D1.out).mono ?_
      rintro e w2 ⟨rfl, b2⟩
      have D2 := Lib.hid (bT D1.out b2)
      clear b2 E2
      go_wp2
      go_ret
      exact ⟨rfl, D2.out⟩
    | true =>
      rw [hc] at E2
      have CR := Lib.hid (B_true hb)
      have FV := Lib.hid (fC_yes c1 ⟨B_true hb, B_true hc⟩)
      have YY := Lib.hid (show ∀ k, cs.length ≤ k → TrTo ts (bareC cs) k → fC vars (bareC cs) ts = -1 from fun k hk h => FV.out.trans (fF_all (by rw [HB.out]; exact hk) h))
      have NN := Lib.hid (show ∀ k, k < cs.length → TrTo ts (bareC cs) k → ¬ ClT ts ((bareC cs).getD k []) → fC vars (bareC cs) ts = k from fun k hk h g => FV.out.trans (fF_at ⟨by rw [HB.out]; exact hk, h, g⟩))
      have HZ := Lib.hid hz
      have HT := Lib.hid ht
      have HM := Lib.hid (show ts.length ≤ 1048576 by omega)
      have HC := Lib.hid (show ∀ r ∈ cs, r.2.length ≤ 1048576 from fun r hr => by
        obtain ⟨k, h, rfl⟩ := List.getElem_of_mem hr
        have := (CR.out.2.2 k (by rw [HB.out]; exact h)).1
        rw [bareC_get h] at this
        omega)
      clear hz ht HB hb hc FV CR
      generalize hN : cs.length = n at *
      have HN := Lib.hid hN
      clear hN
      have EK : Hid (∀ r ∈ cs, ∀ s1 k1 W, Below w.heap.size w W → Ints W s1 r.2 → Calls Try.prog 61 #[.slice s1 r.2.length k1, .slice sl2 ts.length cap2] W fun e w' => e = .returned (.bool (B (ClT ts r.2))) ∧ Below W.heap.size W w') := fun r h s1 k1 W hW i => clt_any s1 k1 r.2 sl2 cap2 ts W (HC.out r h) HM.out i (HT.out.below hW)
      clear HT HM HC
      generalize ts.length = m at *
      go_enter Try.func34, Try.ntmps34
      go_wp2_with fail
      refine (E1.out _ B0.out).mono ?_
      rintro e w1 ⟨rfl, b1⟩
      have D1 := Lib.hid (bT B0.out b1)
      have TA := CA.out.below b1
      obtain ⟨t0, t1⟩ := TA.cells
      have tl := TA.lt
      have CA1 := Lib.hid TA
      clear b1 E1 TA CA
      go_wp2_with fail
      refine (E2.out _ D1.out).mono ?_
      rintro e w2 ⟨rfl, b2⟩
      have D2 := Lib.hid (bT D1.out b2)
      have TA := CA1.out.below b2
      clear t0 t1 tl
      obtain ⟨t0, t1⟩ := TA.cells
      have tl := TA.lt
      have CA2 := Lib.hid TA
      clear b2 E2 TA CA1 D1
      go_wp2
      clear t0 t1 tl
      go_loopw [23] (fun i wr => ∃ k : Nat, i = .int .i64 k ∧ k ≤ n ∧ Hid (TrTo ts (bareC cs) k) ∧ Hid (Below w2.heap.size w2 wr)) (fun i _ => n - (intOf i).toNat)
      case atStart => exact ⟨0, rfl, Nat.zero_le _, TrTo.zero _ _, Below.refl _ _⟩
      case round =>
        obtain ⟨k, rfl, hk, IT, H2⟩ := hrel
        have hk0 : (0 : Int) ≤ (k : Int) := by omega
        have DW := Lib.hid (bT D2.out H2.out)
        by_cases g1 : k < n
        · have g1' : (k : Int) < (n : Int) := by omega
          have hlt : k < cs.length := by rw [HN.out]; exact g1
          obtain ⟨c, o, rfl, Z0⟩ := HZ.out.at hlt
          have hc := (Z0.below DW.out).2 k hlt
          obtain ⟨s1, k1, v1, i1, l1⟩ := (HZ.out.each cs[k] (List.getElem_mem hlt)).below DW.out
          rw [v1] at hc
          have E := Lib.hid (EK.out cs[k] (List.getElem_mem hlt) s1 k1 wr DW.out i1)
          have BG := Lib.hid (bareC_get hlt)
          cases hb : B (ClT ts cs[k].2) with
          | true =>
            rw [hb] at E
            have IT2 := Lib.hid (IT.out.step (by rw [BG.out]; exact B_true hb))
            clear hb IT i1 l1 Z0 v1 BG
            generalize cs[k].2.length = q at *
            clear hlt EK
            go_wp2_with fail
            refine E.out.mono ?_
            rintro e w5 ⟨rfl, b5⟩
            have D5 := Lib.hid (bT H2.out b5)
            clear b5 E
            go_wp2
            go_roundw
            case rel => exact ⟨k + 1, by go_num, by omega, IT2, D5⟩
            case measure => simp [intOf]; omega
          | false =>
            rw [hb] at E
            have NO := Lib.hid (NN.out k g1 IT.out (by rw [BG.out]; exact B_false hb))
            clear hb IT i1 l1 Z0 v1 BG
            generalize cs[k].2.length = q at *
            clear hlt EK
            go_wp2_with fail
            refine E.out.mono ?_
            rintro e w5 ⟨rfl, b5⟩
            have D5 := Lib.hid (bT DW.out b5)
            clear b5 E
            go_wp2
            go_ret
            exact ⟨by rw [NO.out]; rfl, D5.out⟩
        · have g1' : ¬ (k : Int) < (n : Int) := by omega
          have YES := Lib.hid (YY.out k (by omega) IT.out)
          clear IT EK
          go_wp2
          go_ret
          exact ⟨by rw [YES.out]; rfl, DW.out⟩

set_option maxRecDepth 100000 in
set_option maxHeartbeats 1000000 in
/-- impl.CnfTrue. -/
theorem ict_any (vars : Int) (sl : Option Addr) (cap : Nat) (cs : List LCl) (sl2 : Option Addr) (cap2 : Nat) (ts : List Int) (w : World) (hn : cs.length ≤ maxLen) (hm : ts.length ≤ maxLen) (hz : Cls w sl cs) (ht : Ints w sl2 ts) :
    Calls Try.prog 10 #[CV vars sl cs.length cap, .slice sl2 ts.length cap2] w fun e w' => e = .returned (.bool (fC vars (bareC cs) ts == -1)) ∧ Below w.heap.size w w' := by
  have B0 := Lib.hid (bA0 w (.cells #[.int .i64 vars, .slice sl cs.length cap] 25))
  have E1 := Lib.hid (icf_any vars sl cap cs sl2 cap2 ts _ hn hm (hz.below B0.out) (ht.below B0.out))
  clear hz ht hn hm
  generalize fC vars (bareC cs) ts = f at *
  generalize cs.length = n at *
  generalize ts.length = m at *
  go_enter Try.func10, Try.ntmps10
  go_wp2_with fail
  refine E1.out.mono ?_
  rintro e w1 ⟨rfl, b1⟩
  have D1 := Lib.hid (bT B0.out b1)
  clear b1 E1
  go_wp2
  go_ret
  exact ⟨rfl, D1.out⟩

end Go.Proofs.Ytdmnnclbcljdmaa
namespace Go.Proofs.Ytdmnnclbcljdmaa
open Go.RowKit
set_option linter.unusedVariables false

theorem sok_nil {vars : Int} {css : List (List Int)} (h : CnfR vars css) (hw : ∀ l ∈ css, ∀ z ∈ l, wfI z) : SOk css vars.toNat [] [] := by
  have e : ((vars.toNat : Nat) : Int) = vars := by have := h.1.1; omega
  refine ⟨fun l hl z hz => ?_, (fun l hl => by cases hl), fun i hi => absurd hi (Nat.not_lt_zero _)⟩
  rw [e]
  obtain ⟨i, hi, rfl⟩ := List.getElem_of_mem hl
  have hc : ClR vars (css.getD i []) := h.2.2 i hi
  simp only [List.getD_eq_getElem?_getD, List.getElem?_eq_getElem hi, Option.getD_some] at hc
  exact (lv_in h.1.1 h.1.2 (hw _ hl z hz)).1 (hc.2.1 z hz)
theorem trL_up (T : List Int) : ∀ n : Nat, (trL T n).Pairwise (· < ·)
  | 0 => List.Pairwise.nil
  | n + 1 => by
    by_cases hv : val T ((n : Int) + 1) = 1
    · rw [trL_yes hv, List.pairwise_append]
      refine ⟨trL_up T n, List.pairwise_singleton _ _, fun a ha b hb => ?_⟩
      rw [List.mem_singleton] at hb
      have := ((trL_mem T n a).1 ha).1
      omega
    · rw [trL_no hv]; exact trL_up T n
theorem rise_up {zs : List Int} {hi : Int} (h : zs.Pairwise (· < ·)) (hm : ∀ z ∈ zs, 1 ≤ z ∧ z ≤ hi) : InRise 1 hi zs := fun i hi' => by
  have hg : zs.getD i 0 = zs[i] := by simp [List.getD_eq_getElem?_getD, hi']
  refine ⟨by rw [hg]; exact hm _ (List.getElem_mem hi'), fun h0 => ?_⟩
  have hi2 : i - 1 < zs.length := by omega
  have hg2 : zs.getD (i - 1) 0 = zs[i - 1] := by simp [List.getD_eq_getElem?_getD, hi2]
  rw [hg, hg2]
  exact List.pairwise_iff_getElem.1 h (i - 1) i hi2 hi' (by omega)
theorem solF_trues (css : List (List Int)) (V : Nat) : ∀ (n : Nat) (st : Int) (L : List (List Int)) (D : List Int), (solF css V n st L D).2.1 = [] ∨ ∃ T, (solF css V n st L D).2.1 = trL T V
  | 0, st, L, D => .inl rfl
  | n + 1, st, L, D => by
    unfold solF
    split
    · split
      · exact .inr ⟨_, rfl⟩
      · exact solF_trues css V n _ _ _
    · split
      · exact .inl rfl
      · exact solF_trues css V n _ _ _
theorem clt_of {vars : Int} {ts l : List Int} (h0 : 0 ≤ vars) (h1 : vars ≤ 96) (hl : ∀ z ∈ l, OkZ vars z) (h : ClTrue ts l) : ClT ts l := by
  obtain ⟨z, hz, h⟩ := h
  have hk := hl z hz
  refine ⟨z, hz, ?_⟩
  rw [lv_ok h0 h1 hk]
  rcases h with ⟨a, b⟩ | ⟨a, b⟩
  · rw [show max z (-z) = z by omega]; exact ⟨fun _ => a, fun _ => b⟩
  · rw [show max z (-z) = -z by omega]; exact ⟨fun g => absurd g b, fun g => by omega⟩
theorem solA_code {vars : Int} {css : List (List Int)} {bud : Int} (h : (solA vars css bud).2 = 0) : SolOk vars css bud := by
  by_cases g : SolOk vars css bud
  · exact g
  · rw [solA_no g] at h; cases h
theorem solA_more {vars : Int} {css : List (List Int)} {bud : Int} (h : SolOk vars css bud) (h3 : (solA vars css bud).1.1 ≠ 3) : solA vars css (if bud + 40 < 300 then bud + 40 else 300) = solA vars css bud := by
  have a1 := h.2.1
  have a2 := h.2.2
  have h' : SolOk vars css (if bud + 40 < 300 then bud + 40 else 300) := ⟨h.1, by split <;> omega, by split <;> omega⟩
  rw [solA_yes h] at h3 ⊢
  rw [solA_yes h', solF_more css vars.toNat bud.toNat _ 0 [] [] (by split <;> omega) h3]
theorem solA_steps {vars : Int} {css : List (List Int)} {bud : Int} (h : SolOk vars css bud) : (solA vars css bud).1.2.2.2 ≤ bud := by
  have a1 := h.2.1
  have := solF_steps css vars.toNat bud.toNat 0 [] []
  rw [solA_yes h]
  show (solF css vars.toNat bud.toNat 0 [] []).2.2.2 ≤ bud
  omega
theorem solA_true {vars : Int} {css : List (List Int)} {bud : Int} (h : SolOk vars css bud) (hw : ∀ l ∈ css, ∀ z ∈ l, wfI z) (h1 : (solA vars css bud).1.1 = 1) : fC vars css (solA vars css bud).1.2.1 = -1 := by
  have e : ((vars.toNat : Nat) : Int) = vars := by have := h.1.1.1; omega
  have a2 := h.1.1.2
  have ok := sok_nil h.1 hw
  rw [solA_yes h] at h1 ⊢
  have ht := solF_true (by omega) bud.toNat 0 [] [] ok h1
  have hr := solF_trues css vars.toNat bud.toNat 0 [] []
  show fC vars css (solF css vars.toNat bud.toNat 0 [] []).2.1 = -1
  generalize (solF css vars.toNat bud.toNat 0 [] []).2.1 = ts at *
  have hts : ts.length ≤ 96 ∧ InRise 1 vars ts := by
    rcases hr with rfl | ⟨T, rfl⟩
    · exact ⟨by simp, fun i hi => absurd hi (Nat.not_lt_zero _)⟩
    · refine ⟨by have := trL_len T vars.toNat; omega, rise_up (trL_up T _) (fun z hz => ?_)⟩
      have := ((trL_mem T _ z).1 hz).1
      omega
  rw [fC_yes (by omega) ⟨h.1, hts.2⟩]
  refine fF_all (Nat.le_refl _) (fun i hi => ?_)
  have hg : css.getD i [] = css[i] := by simp [List.getD_eq_getElem?_getD, hi]
  rw [hg]
  have hm : css[i] ∈ css := List.getElem_mem hi
  exact clt_of h.1.1.1 a2 (fun z hz => by have := ok.cl _ hm z hz; rwa [e] at this) (ht _ hm)

end Go.Proofs.Ytdmnnclbcljdmaa
namespace Go.Proofs.Ytdmnnclbcljdmaa
open Go.RowKit

/-- What DrawSolve draws. -/
def DsPost (w : World) (e : Ending) (w' : World) : Prop :=
  ∃ (vars : Int) (vs : Option Addr) (vk : Nat) (cs : List LCl) (bud : Int), e = .returned (.tuple #[CV vars vs cs.length vk, .int .i64 bud]) ∧ (∀ r ∈ cs, r.2.length ≤ 20 ∧ ∀ z ∈ r.2, -100 ≤ z ∧ z ≤ 100) ∧ cs.length ≤ 5000 ∧ -1 ≤ bud ∧ bud ≤ 301 ∧ OwC w' w.heap.size (.slice vs cs.length vk) cs ∧ Below w.heap.size w w'

end Go.Proofs.Ytdmnnclbcljdmaa
namespace Go.Proofs.Ytdmnnclbcljdmaa
open Go.RowKit
set_option linter.unusedVariables false

/-- Numbers put behind numbers: both ways of it. -/
theorem appZD {w : World} {B : Nat} {v : Value} {zs : List Int} (h : w.ownsRow B 2 1 v zs.length (valsZ zs)) {s : Option Addr} {r : List Int} (k : Nat) (hi : Ints w s r) (hB : B ≤ w.heap.size) (hl : zs.length + r.length ≤ 10000000) :
    ∃ v9 w9, (∀ ty, (Builtin.append_ #[28, 28] ty #[v, .slice s r.length k]).run Try.prog w = .ok v9 w9) ∧ w9.ownsRow B 2 1 v9 (zs ++ r).length (valsZ (zs ++ r)) ∧ w.grownBy w9 v.ownBlock ∧ ∀ j, v.ownBlock = some j → B ≤ j := by
  obtain ⟨i3, hi3, hd0, hd1, hd2⟩ := info_parts info2'
  have hlo : ∀ j, v.ownBlock = some j → B ≤ j := fun j hj => (h.lt j hj).1
  obtain ⟨sl, cap, rfl⟩ := own_v h
  by_cases he : r = []
  · subst he
    exact ⟨_, w, fun ty => app_none40 w ty sl zs.length cap (own_cap8 h) s k, by rw [List.append_nil]; exact h, ⟨rfl, rfl, rfl, Nat.le_refl _, fun _ _ _ => rfl⟩, hlo⟩
  · rcases hi with hi | ⟨c, o, rfl, hi⟩
    · exact absurd hi he
    · obtain ⟨g, c9, w9, hr, own9, grow9, hg, -⟩ := run_append_lies (P := Try.prog) w 28 28 B 2 i3 (.int .i64 0) 1 8 Try.underlying28 hi3 hd0 hd1 hd2 rfl (by decide) _ _ _ h ⟨c, o, none⟩ r.length k (valsZ r) (valsZ_len1 r) (int_cells hi) (valsZ_one r) (List.length_pos_iff.2 he) (by unfold maxLen; omega) (by omega) hB w.heap.size rfl
      exact ⟨_, w9, fun ty => hr, by rw [List.length_append, show valsZ (zs ++ r) = valsZ zs ++ valsZ r by simp [valsZ]]; exact own9, grow9, hlo⟩

set_option maxRecDepth 100000 in
set_option maxHeartbeats 2000000 in
/-- laws.lwCopy. -/
theorem lwc_any (sl : Option Addr) (cap : Nat) (zs : List Int) (w : World) (hn : zs.length ≤ 1048576) (hz : Ints w sl zs) :
    Calls Try.prog 11 #[.slice sl zs.length cap] w fun e w' => ∃ v, e = .returned v ∧ w'.ownsRow w.heap.size 2 1 v zs.length (valsZ zs) ∧ Below w.heap.size w w' := by
  have B0 := Lib.hid (bA0 w (.cells #[] 2))
  obtain ⟨v9, w9, ha, ow, gr, hj⟩ := appZD (zs := []) (own_none8 w) cap (hz.below B0.out) B0.out.size (by simp; omega)
  have ha' := ha 28
  have O9 : Hid (w9.ownsRow w.heap.size 2 1 v9 zs.length (valsZ zs)) := by
    have := ow
    rwa [List.nil_append] at this
  have B9 := Lib.hid (B0.out.grown gr B0.out.size hj)
  clear ha ow gr hj hz B0
  generalize zs.length = n at *
  go_enter Try.func11, Try.ntmps11
  go_wp2_with (at_builtin; refine Lib.wpList_append_run _ rfl _ _ _ _ rfl _ _ rfl rfl _ _ ha' ?_)
  go_ret
  exact ⟨_, rfl, O9.out, B9.out⟩

set_option maxRecDepth 100000 in
set_option maxHeartbeats 2000000 in
/-- laws.lwSame, of the same numbers twice. -/
theorem lws_any (sl sl' : Option Addr) (cap cap' : Nat) (zs : List Int) (w : World) (hn : zs.length ≤ maxLen) (hz : Ints w sl zs) (hz' : Ints w sl' zs) :
    Calls Try.prog 12 #[.slice sl zs.length cap, .slice sl' zs.length cap'] w fun e w' => e = .returned (.bool true) ∧ Below w.heap.size w w' := by
  unfold maxLen at hn
  have HZ := Lib.hid hz
  have HZ' := Lib.hid hz'
  clear hz hz'
  generalize hN : zs.length = n at *
  have HN := Lib.hid hN
  clear hN
  go_enter Try.func12, Try.ntmps12
  go_wp2
  go_loopw [5] (fun i wr => ∃ k : Nat, i = .int .i64 k ∧ k ≤ n ∧ Hid (Below w.heap.size w wr)) (fun i _ => n - (intOf i).toNat)
  case atStart => exact ⟨0, rfl, Nat.zero_le _, Below.refl _ _⟩
  case round =>
    obtain ⟨k, rfl, hk, H2⟩ := hrel
    have hk0 : (0 : Int) ≤ (k : Int) := by omega
    by_cases g1 : k < n
    · have g1' : (k : Int) < (n : Int) := by omega
      have hlt : k < zs.length := by rw [HN.out]; exact g1
      obtain ⟨c, o, rfl, Z0⟩ : ∃ c o, sl = some ⟨c, o, none⟩ ∧ IntsAt w c o zs := by
        rcases HZ.out with e | h
        · rw [e] at hlt; simp at hlt
        · exact h
      obtain ⟨c', o', rfl, Z0'⟩ : ∃ c o, sl' = some ⟨c, o, none⟩ ∧ IntsAt w c o zs := by
        rcases HZ'.out with e | h
        · rw [e] at hlt; simp at hlt
        · exact h
      have KS : Hid ((c < wr.drew.heap.size ∧ wr.drew.cell? ⟨c, o + k, none⟩ = some (.int .i64 (zs.getD k 0))) ∧ c' < wr.drew.heap.size ∧ wr.drew.cell? ⟨c', o' + k, none⟩ = some (.int .i64 (zs.getD k 0))) :=
        ⟨⟨Nat.lt_of_lt_of_le Z0.1 H2.out.drew.size, (H2.out.drew.cell (p := ⟨c, o + k, none⟩) Z0.1).trans (Z0.2 k hlt)⟩, Nat.lt_of_lt_of_le Z0'.1 H2.out.drew.size, (H2.out.drew.cell (p := ⟨c', o' + k, none⟩) Z0'.1).trans (Z0'.2 k hlt)⟩
      have D2 := Lib.hid H2.out.drew
      generalize zs.getD k 0 = a at *
      clear Z0 Z0' hlt
      go_wp2_with fail
      refine wp_region_held_drew (S := fun W => (c < W.heap.size ∧ W.cell? ⟨c, o + k, none⟩ = some (.int .i64 a)) ∧ c' < W.heap.size ∧ W.cell? ⟨c', o' + k, none⟩ = some (.int .i64 a)) (by kernel_rfl) ?_ (fun hHeld => ?_)
      · exact KS.out
      refine wpAnyH_take (i := 0) (oi := _) (v := ?_) rfl (by kernel_rfl) (by kernel_rfl) (by kernel_rfl) (fun _ _ _ h => h) (Or.inl ⟨by rfl, ?_⟩) (by assumption) ?_
      rotate_left
      · first | (intro w hSw; (try dsimp only at hSw); go_simp; done) | (intro w hSw; (try dsimp only at hSw); go_simp; with_reducible rfl)
      try simp only [Act.put, List.setIfInBounds_toArray, List.set_cons_zero, List.set_cons_succ, List.getElem_toArray, List.getElem_cons_zero]
      refine wpAnyH_take (i := 1) (oi := _) (v := ?_) rfl (by kernel_rfl) (by kernel_rfl) (by kernel_rfl) (fun _ _ _ h => h) (Or.inl ⟨by rfl, ?_⟩) (by assumption) ?_
      rotate_left
      · first | (intro w hSw; (try dsimp only at hSw); go_simp; done) | (intro w hSw; (try dsimp only at hSw); go_simp; with_reducible rfl)
      try simp only [Act.put, List.setIfInBounds_toArray, List.set_cons_zero, List.set_cons_succ, List.getElem_toArray, List.getElem_cons_succ, List.getElem_cons_zero]
      refine wpAnyH_take (i := 2) (oi := _) (v := ?_) rfl (by kernel_rfl) (by kernel_rfl) (by kernel_rfl) (fun _ _ _ h => h) (Or.inl ⟨by rfl, ?_⟩) (by assumption) ?_
      rotate_left
      · first | (intro w hSw; (try dsimp only at hSw); go_simp; done) | (intro w hSw; (try dsimp only at hSw); go_simp; with_reducible rfl)
      try simp only [Act.put, List.setIfInBounds_toArray, List.set_cons_zero, List.set_cons_succ, List.getElem_toArray, List.getElem_cons_succ, List.getElem_cons_zero]
      refine wpAnyH_take (i := 3) (oi := _) (v := ?_) rfl (by kernel_rfl) (by kernel_rfl) (by kernel_rfl) (fun _ _ _ h => h) (Or.inl ⟨by rfl, ?_⟩) (by assumption) ?_
      rotate_left
      · first | (intro w hSw; (try dsimp only at hSw); go_simp; done) | (intro w hSw; (try dsimp only at hSw); go_simp; with_reducible rfl)
      try simp only [Act.put, List.setIfInBounds_toArray, List.set_cons_zero, List.set_cons_succ, List.getElem_toArray, List.getElem_cons_succ, List.getElem_cons_zero]
      refine wpAnyH_take (i := 4) (oi := _) (v := ?_) rfl (by kernel_rfl) (by kernel_rfl) (by kernel_rfl) (fun _ _ _ h => h) (Or.inl ⟨by rfl, ?_⟩) (by assumption) ?_
      rotate_left
      · first | (intro w hSw; (try dsimp only at hSw); go_simp; done) | (intro w hSw; (try dsimp only at hSw); go_simp; with_reducible rfl)
      try simp only [Act.put, List.setIfInBounds_toArray, List.set_cons_zero, List.set_cons_succ, List.getElem_toArray, List.getElem_cons_succ, List.getElem_cons_zero]
      refine wpAnyH_take (i := 5) (oi := _) (v := ?_) rfl (by kernel_rfl) (by kernel_rfl) (by kernel_rfl) (fun _ _ _ h => h) (Or.inl ⟨by rfl, ?_⟩) (by assumption) ?_
      rotate_left
      · first | (intro w hSw; (try dsimp only at hSw); go_simp; done) | (intro w hSw; (try dsimp only at hSw); go_simp; with_reducible rfl)
      try simp only [Act.put, List.setIfInBounds_toArray, List.set_cons_zero, List.set_cons_succ, List.getElem_toArray, List.getElem_cons_succ, List.getElem_cons_zero]
      refine wpAnyH_take (i := 6) (oi := _) (v := ?_) rfl (by kernel_rfl) (by kernel_rfl) (by kernel_rfl) (fun _ _ _ h => h) (Or.inl ⟨by rfl, ?_⟩) (by assumption) ?_
      rotate_left
      · first | (intro w hSw; (try dsimp only at hSw); go_simp; done) | (intro w hSw; (try dsimp only at hSw); go_simp; with_reducible rfl)
      try simp only [Act.put, List.setIfInBounds_toArray, List.set_cons_zero, List.set_cons_succ, List.getElem_toArray, List.getElem_cons_succ, List.getElem_cons_zero]
      refine wpAnyH_take (i := 7) (oi := _) (v := ?_) rfl (by kernel_rfl) (by kernel_rfl) (by kernel_rfl) (fun _ _ _ h => h) (Or.inl ⟨by rfl, ?_⟩) (by assumption) ?_
      rotate_left
      · first | (intro w hSw; (try dsimp only at hSw); go_simp; done) | (intro w hSw; (try dsimp only at hSw); go_simp; with_reducible rfl)
      try simp only [Act.put, List.setIfInBounds_toArray, List.set_cons_zero, List.set_cons_succ, List.getElem_toArray, List.getElem_cons_succ, List.getElem_cons_zero]
      refine wpAnyH_take (i := 8) (oi := _) (v := ?_) rfl (by kernel_rfl) (by kernel_rfl) (by kernel_rfl) (fun _ _ _ h => h) (Or.inl ⟨by rfl, ?_⟩) (by assumption) ?_
      rotate_left
      · first | (intro w hSw; (try dsimp only at hSw); go_simp; done) | (intro w hSw; (try dsimp only at hSw); go_simp; with_reducible rfl)
      try simp only [Act.put, List.setIfInBounds_toArray, List.set_cons_zero, List.set_cons_succ, List.getElem_toArray, List.getElem_cons_succ, List.getElem_cons_zero]
      refine wpAnyH_done (by kernel_rfl) ?_ _
      clear KS
      go_wp2
      go_roundw
      case rel => exact ⟨k + 1, by go_num, by omega, D2⟩
      case measure => simp [intOf]; omega
    · have g1' : ¬ (k : Int) < (n : Int) := by omega
      go_wp2
      go_ret
      exact ⟨rfl, H2.out⟩

set_option maxRecDepth 100000 in
set_option maxHeartbeats 2000000 in
/-- laws.lwLists, of the same lists twice. -/
theorem lwl_any (sl sl' : Option Addr) (cap cap' : Nat) (cs ds : List LCl) (w : World) (hn : cs.length ≤ 1048576) (he : bareC cs = bareC ds) (hz : Cls w sl cs) (hz' : Cls w sl' ds) :
    Calls Try.prog 13 #[.slice sl cs.length cap, .slice sl' ds.length cap'] w fun e w' => e = .returned (.bool true) ∧ Below w.heap.size w w' := by
  rw [← bareC_len he]
  have HZ := Lib.hid hz
  have HZ' := Lib.hid hz'
  have HE := Lib.hid he
  have hl2 := Lib.hid (bareC_len he)
  clear hz hz' he
  generalize hN : cs.length = n at *
  have HN := Lib.hid hN
  clear hN
  go_enter Try.func13, Try.ntmps13
  go_wp2
  go_loopw [5] (fun i wr => ∃ k : Nat, i = .int .i64 k ∧ k ≤ n ∧ Hid (Below w.heap.size w wr)) (fun i _ => n - (intOf i).toNat)
  case atStart => exact ⟨0, rfl, Nat.zero_le _, Below.refl _ _⟩
  case round =>
    obtain ⟨k, rfl, hk, H2⟩ := hrel
    have hk0 : (0 : Int) ≤ (k : Int) := by omega
    by_cases g1 : k < n
    · have g1' : (k : Int) < (n : Int) := by omega
      have hlt : k < cs.length := by rw [HN.out]; exact g1
      have hlt' : k < ds.length := by rw [← hl2.out]; exact g1
      have D2 := Lib.hid H2.out.drew
      have Z1 := HZ.out.below D2.out
      have Z1' := HZ'.out.below D2.out
      obtain ⟨c, o, rfl, Z0⟩ := Z1.at hlt
      obtain ⟨c', o', rfl, Z0'⟩ := Z1'.at hlt'
      obtain ⟨ra, ka, ea, ia, la⟩ := Z1.each _ (List.getElem_mem hlt)
      obtain ⟨rb, kb, eb, ib, lb⟩ := Z1'.each _ (List.getElem_mem hlt')
      have e2 : cs[k].2 = ds[k].2 := by
        have := congrArg (fun l : List (List Int) => l[k]?) HE.out
        simpa [bareC, hlt, hlt'] using this
      have q := Z0.2 k hlt
      have q' := Z0'.2 k hlt'
      rw [ea] at q
      rw [eb, ← e2] at q'
      rw [← e2] at ib
      have cl := Z0.1
      have cl' := Z0'.1
      have KS : Hid (∀ W, Below wr.drew.heap.size wr.drew W → (c < W.heap.size ∧ W.cell? ⟨c, o + k, none⟩ = some (.slice ra cs[k].2.length ka)) ∧ c' < W.heap.size ∧ W.cell? ⟨c', o' + k, none⟩ = some (.slice rb cs[k].2.length kb)) := fun W hW =>
        ⟨⟨Nat.lt_of_lt_of_le cl hW.size, (hW.cell (p := ⟨c, o + k, none⟩) cl).trans q⟩, Nat.lt_of_lt_of_le cl' hW.size, (hW.cell (p := ⟨c', o' + k, none⟩) cl').trans q'⟩
      have CS := Lib.hid (lws_any ra rb ka kb cs[k].2 wr.drew la ia ib)
      clear Z0 Z0' Z1 Z1' ea eb ia ib la lb e2 q q' cl cl'
      generalize cs[k].2.length = u at *
      have K0 := Lib.hid (KS.out _ (Below.refl _ _))
      clear hlt hlt'
      go_wp2_with fail
      refine wp_region_held_drew (S := fun W => (c < W.heap.size ∧ W.cell? ⟨c, o + k, none⟩ = some (.slice ra u ka)) ∧ c' < W.heap.size ∧ W.cell? ⟨c', o' + k, none⟩ = some (.slice rb u kb)) (by kernel_rfl) ?_ (fun hHeld => ?_)
      · exact K0.out
      refine wpAnyH_take (i := 0) (oi := _) (v := ?_) rfl (by kernel_rfl) (by kernel_rfl) (by kernel_rfl) (fun _ _ _ h => h) (Or.inl ⟨by rfl, ?_⟩) (by assumption) ?_
      rotate_left
      · first | (intro w hSw; (try dsimp only at hSw); go_simp; done) | (intro w hSw; (try dsimp only at hSw); go_simp; with_reducible rfl)
      try simp only [Act.put, List.setIfInBounds_toArray, List.set_cons_zero, List.set_cons_succ, List.getElem_toArray, List.getElem_cons_zero]
      refine wpAnyH_take (i := 1) (oi := _) (v := ?_) rfl (by kernel_rfl) (by kernel_rfl) (by kernel_rfl) (fun _ _ _ h => h) (Or.inl ⟨by rfl, ?_⟩) (by assumption) ?_
      rotate_left
      · first | (intro w hSw; (try dsimp only at hSw); go_simp; done) | (intro w hSw; (try dsimp only at hSw); go_simp; with_reducible rfl)
      try simp only [Act.put, List.setIfInBounds_toArray, List.set_cons_zero, List.set_cons_succ, List.getElem_toArray, List.getElem_cons_succ, List.getElem_cons_zero]
      refine wpAnyH_take (i := 2) (oi := _) (v := ?_) rfl (by kernel_rfl) (by kernel_rfl) (by kernel_rfl) (fun _ _ _ h => h) (Or.inl ⟨by rfl, ?_⟩) (by assumption) ?_
      rotate_left
      · first | (intro w hSw; (try dsimp only at hSw); go_simp; done) | (intro w hSw; (try dsimp only at hSw); go_simp; with_reducible rfl)
      try simp only [Act.put, List.setIfInBounds_toArray, List.set_cons_zero, List.set_cons_succ, List.getElem_toArray, List.getElem_cons_succ, List.getElem_cons_zero]
      refine wpAnyH_take (i := 3) (oi := _) (v := ?_) rfl (by kernel_rfl) (by kernel_rfl) (by kernel_rfl) (fun _ _ _ h => h) (Or.inl ⟨by rfl, ?_⟩) (by assumption) ?_
      rotate_left
      · first | (intro w hSw; (try dsimp only at hSw); go_simp; done) | (intro w hSw; (try dsimp only at hSw); go_simp; with_reducible rfl)
      try simp only [Act.put, List.setIfInBounds_toArray, List.set_cons_zero, List.set_cons_succ, List.getElem_toArray, List.getElem_cons_succ, List.getElem_cons_zero]
      refine wpAnyH_take (i := 4) (oi := _) (v := ?_) rfl (by kernel_rfl) (by kernel_rfl) (by kernel_rfl) (fun _ _ _ h => h) (Or.inl ⟨by rfl, ?_⟩) (by assumption) ?_
      rotate_left
      · first | (intro w hSw; (try dsimp only at hSw); go_simp; done) | (intro w hSw; (try dsimp only at hSw); go_simp; with_reducible rfl)
      try simp only [Act.put, List.setIfInBounds_toArray, List.set_cons_zero, List.set_cons_succ, List.getElem_toArray, List.getElem_cons_succ, List.getElem_cons_zero]
      refine wpAnyH_take (i := 5) (oi := _) (v := ?_) rfl (by kernel_rfl) (by kernel_rfl) (by kernel_rfl) (fun _ _ _ h => h) (Or.inl ⟨by rfl, ?_⟩) (by assumption) ?_
      rotate_left
      · first | (intro w hSw; (try dsimp only at hSw); go_simp; done) | (intro w hSw; (try dsimp only at hSw); go_simp; with_reducible rfl)
      try simp only [Act.put, List.setIfInBounds_toArray, List.set_cons_zero, List.set_cons_succ, List.getElem_toArray, List.getElem_cons_succ, List.getElem_cons_zero]
      refine wpAnyH_take (i := 6) (oi := _) (v := ?_) rfl (by kernel_rfl) (by kernel_rfl) (by kernel_rfl) (fun _ _ _ h => h) (Or.inl ⟨by rfl, ?_⟩) (by assumption) ?_
      rotate_left
      · first | (intro w hSw; (try dsimp only at hSw); go_simp; done) | (intro w hSw; (try dsimp only at hSw); go_simp; with_reducible rfl)
      try simp only [Act.put, List.setIfInBounds_toArray, List.set_cons_zero, List.set_cons_succ, List.getElem_toArray, List.getElem_cons_succ, List.getElem_cons_zero]
      refine wpAnyH_take (i := 7) (oi := _) (v := ?_) rfl (by kernel_rfl) (by kernel_rfl) (by kernel_rfl) (fun _ _ _ h => h) (Or.inl ⟨by rfl, ?_⟩) (by assumption) ?_
      rotate_left
      · first | (intro w hSw; (try dsimp only at hSw); go_simp; done) | (intro w hSw; (try dsimp only at hSw); go_simp; with_reducible rfl)
      try simp only [Act.put, List.setIfInBounds_toArray, List.set_cons_zero, List.set_cons_succ, List.getElem_toArray, List.getElem_cons_succ, List.getElem_cons_zero]
      refine wpAnyH_ready (rs := [8]) (by kernel_rfl) (by simp) ?_
      refine AllReadyH.cons rfl (fun K hK => ?_) AllReadyH.nil
      go_simp
      go_wp2_with (go_at_call 12; refine CS.out.mono ?_; rintro e w9 ⟨rfl, b9'⟩)
      have b9 := Lib.hid b9'
      clear b9' CS
      refine hK.out _ _ ?_ (fun hHeld => ?_)
      · exact KS.out _ b9.out
      clear hK K
      refine wpAnyH_take (i := 9) (oi := _) (v := ?_) rfl (by kernel_rfl) (by kernel_rfl) (by kernel_rfl) (fun _ _ _ h => h) (Or.inl ⟨by rfl, ?_⟩) (by assumption) ?_
      rotate_left
      · first | (intro w hSw; (try dsimp only at hSw); go_simp; done) | (intro w hSw; (try dsimp only at hSw); go_simp; with_reducible rfl)
      try simp only [Act.put, List.setIfInBounds_toArray, List.set_cons_zero, List.set_cons_succ, List.getElem_toArray, List.getElem_cons_succ, List.getElem_cons_zero]
      refine wpAnyH_done (by kernel_rfl) ?_ _
      have F9 : Hid (Below w.heap.size w w9) := bT D2.out b9.out
      clear KS K0 b9
      go_wp2
      go_roundw
      case rel => exact ⟨k + 1, by go_num, by omega, F9⟩
      case measure => simp [intOf]; omega
    · have g1' : ¬ (k : Int) < (n : Int) := by omega
      go_wp2
      go_ret
      exact ⟨rfl, H2.out⟩

end Go.Proofs.Ytdmnnclbcljdmaa
namespace Go.Proofs.Ytdmnnclbcljdmaa
open Go.RowKit
set_option linter.unusedVariables false

/-- The numbers zs, in a block of their own. -/
def RowZ (w : World) (g : Nat) (zs : List Int) : Prop := RowAt w g (vsOf zs zs.length)
theorem RowZ.lt {w : World} {g : Nat} {zs : List Int} (h : RowZ w g zs) : g < w.heap.size := RowAt.lt h
theorem RowZ.below {w w' : World} {g : Nat} {zs : List Int} (h : RowZ w g zs) (hb : Below w.heap.size w w') : RowZ w' g zs := (hb.block g h.lt).trans h
theorem RowZ.set {w : World} {c : Nat} {zs : List Int} (h : RowZ w c zs) {b : Nat} (hb : c ≠ b) (i : Nat) (v : Value) : RowZ (w.setCell ⟨b, i, none⟩ v) c zs := (Below.heap_setCell _ _ _ _ hb).trans h
theorem RowZ.ints {w : World} {g : Nat} {zs : List Int} (h : RowZ w g zs) : Ints w (some ⟨g, 0, none⟩) zs := .inr ⟨g, 0, rfl, RowAt.ints h (Nat.le_refl _)⟩
theorem Only.drewN {b : Nat} {u v : World} (h : Only b u v) (n : Nat) : Only b u (v.drewN n) := ⟨h.os, h.tape, h.output, h.size, h.block⟩
theorem Only.frozen {b : Nat} {w w' : World} (h : Only b w w') {c o : Nat} (hc : c < w.heap.size) (hb : c ≠ b) : w'.frozen? ⟨c, o, none⟩ = w.frozen? ⟨c, o, none⟩ := World.frozen?_of_block (w := w) (h.block c hc hb)
/-- The n numbers from k on. -/
def marks (k : Int) (n : Nat) : List Int := (List.range n).map (fun i : Nat => k + (i : Int))
/-- The first i cells of a row hold the marks. -/
def Marked (w : World) (b s : Nat) (k : Int) (i : Nat) : Prop := ∃ vs : Array Value, RowAt w b vs ∧ vs.size = s ∧ ∀ j, j < i → vs[j]? = some (.int .i64 (k + (j : Int)))
theorem Marked.step {w : World} {b s : Nat} {k : Int} {i : Nat} (h : Marked w b s k i) (hi : i < s) : Marked (w.setCell ⟨b, i, none⟩ (.int .i64 (k + (i : Int)))) b s k (i + 1) := by
  obtain ⟨vs, h1, h2, h3⟩ := h
  refine ⟨_, h1.set i _, by simp [h2], fun j hj => ?_⟩
  rw [Array.getElem?_setIfInBounds]
  by_cases e : i = j
  · subst e; simp [h2, hi]
  · rw [if_neg e]; exact h3 j (by omega)
theorem Marked.cell {w : World} {b s : Nat} {k : Int} {i : Nat} (h : Marked w b s k i) (j : Nat) (hj : j < s) : (∃ v, w.cell? ⟨b, j, none⟩ = some v) ∧ w.frozen? ⟨b, j, none⟩ = false := by
  obtain ⟨vs, h1, h2, h3⟩ := h
  exact ⟨⟨vs[j]'(by omega), by rw [h1.cell j]; exact Array.getElem?_eq_getElem (by omega)⟩, h1.frozen j⟩
theorem Marked.at {w : World} {b s : Nat} {k : Int} {i : Nat} (h : Marked w b s k i) (j : Nat) (hj : j < i) : w.cell? ⟨b, j, none⟩ = some (.int .i64 (k + (j : Int))) := by
  obtain ⟨vs, h1, h2, h3⟩ := h
  rw [h1.cell j]; exact h3 j hj
theorem Only.grownBy {b : Nat} {w w' : World} (h : Only b w w') : w.grownBy w' (some b) := ⟨h.os, h.tape, h.output, h.size, fun k hk hne => h.block k hk (fun e => hne (by rw [e]))⟩
/-- Nothing has turned but blocks from B on, below L. -/
structure Btw (B L : Nat) (w w' : World) : Prop where
  os : w'.os = w.os
  tape : w'.tape = w.tape
  output : w'.output = w.output
  size : w.heap.size ≤ w'.heap.size
  block : ∀ k, k < w.heap.size → (k < B ∨ L ≤ k) → w'.heap[k]? = w.heap[k]?
theorem Btw.refl (B L : Nat) (w : World) : Btw B L w w := ⟨rfl, rfl, rfl, Nat.le_refl _, fun _ _ _ => rfl⟩
theorem Btw.trans {B L : Nat} {u v w : World} (h : Btw B L u v) (k : Btw B L v w) : Btw B L u w :=
  ⟨k.os.trans h.os, k.tape.trans h.tape, k.output.trans h.output, Nat.le_trans h.size k.size, fun j hj hc => (k.block j (Nat.lt_of_lt_of_le hj h.size) hc).trans (h.block j hj hc)⟩
theorem Btw.grown {B L : Nat} {w0 w w' : World} {row : Option Nat} (h : Btw B L w0 w) (hg : w.grownBy w' row) (hr : ∀ j, row = some j → B ≤ j ∧ j < L) : Btw B L w0 w' :=
  h.trans ⟨hg.os, hg.tape, hg.output, hg.size, fun k hk hc => hg.block k hk (fun e => by have := hr k e.symm; omega)⟩
theorem Btw.alloc {B L : Nat} (w : World) (o : Obj) : Btw B L w (w.alloc o) := (Btw.refl B L w).grown (World.grownBy_alloc w o none) (fun j hj => by cases hj)
theorem Btw.below {B L : Nat} {w w' : World} (h : Btw B L w w') (hB : B ≤ w.heap.size) : Below B w w' := ⟨h.os, h.tape, h.output, h.size, fun k hk => h.block k (Nat.lt_of_lt_of_le hk hB) (.inl hk)⟩
theorem Btw.only {B L g : Nat} {w0 w w' : World} (h : Btw B L w0 w) (hg : Only g w w') (h1 : B ≤ g) (h2 : g < L) : Btw B L w0 w' := h.grown hg.grownBy (fun j hj => by cases hj; exact ⟨h1, h2⟩)
theorem own_btw {B L C : Nat} {e : TypeId} {m : Nat} {v : Value} {n : Nat} {xs : List Value} {w w' : World} (h : w.ownsRow C e m v n xs) (hb : Btw B L w w') (hc : ∀ j, v.ownBlock = some j → j < B ∨ L ≤ j) : w'.ownsRow C e m v n xs := by
  refine ⟨h.1, ?_⟩
  rcases h.2 with h | ⟨g, cap, cur, hv, hg, hh, r⟩
  · exact .inl h
  · exact .inr ⟨g, cap, cur, hv, hg, (hb.block g (Array.getElem?_eq_some_iff.1 hh).1 (hc g (by rw [hv]; rfl))).trans hh, r⟩
theorem RowZ.kept {w w' : World} {g : Nat} {zs : List Int} (h : RowZ w g zs) (e : w'.heap[g]? = w.heap[g]?) : RowZ w' g zs := e.trans h
/-- A clause with a row of its own, above block b. -/
def ClOwn (b : Nat) (w : World) (r : LCl) : Prop := ∃ g, r.1 = .slice (some ⟨g, 0, none⟩) r.2.length r.2.length ∧ RowZ w g r.2 ∧ b < g ∧ r.2.length ≤ 1048576
theorem ClOwn.below {b : Nat} {w w' : World} {r : LCl} (h : ClOwn b w r) (hb : Below w.heap.size w w') : ClOwn b w' r := by
  obtain ⟨g, e, hi, hg, hl⟩ := h
  exact ⟨g, e, hi.below hb, hg, hl⟩
theorem ClOwn.set {b : Nat} {w : World} {r : LCl} (h : ClOwn b w r) {b' : Nat} (hb : b' ≤ b) (i : Nat) (v : Value) : ClOwn b (w.setCell ⟨b', i, none⟩ v) r := by
  obtain ⟨g, e, hi, hg, hl⟩ := h
  exact ⟨g, e, hi.set (by omega) i v, hg, hl⟩
theorem ClOwn.out {b : Nat} {w : World} {r : LCl} (h : ClOwn b w r) : ClOut b w r := by
  obtain ⟨g, e, hi, hg, hl⟩ := h
  exact ⟨g, e, hi.ints, hg, hl⟩

/-- Clauses copied: a row of slices in block b, from block C on, each with a row of its own. -/
structure CnO (C : Nat) (w : World) (b : Nat) (cs : List LCl) : Prop where
  row : RowV w b cs.length (cs.map fun r => r.1)
  each : ∀ r ∈ cs, ClOwn b w r
  lo : C ≤ b
theorem CnO.below {C : Nat} {w w' : World} {b : Nat} {cs : List LCl} (h : CnO C w b cs) (hb : Below w.heap.size w w') : CnO C w' b cs := ⟨h.row.below hb, fun r hr => (h.each r hr).below hb, h.lo⟩
theorem CnO.cls {C : Nat} {w : World} {b : Nat} {cs : List LCl} (h : CnO C w b cs) : Cls w (some ⟨b, 0, none⟩) cs := h.row.cls (fun r hr => (h.each r hr).out)

/-- Clauses to be marked, all from block C on and below L. -/
structure ClM (C L : Nat) (w : World) (b : Nat) (cs : List LCl) : Prop where
  row : ∃ vs : Array Value, w.heap[b]? = some (.cells vs 28) ∧ vs.size = cs.length ∧ ∀ i (h : i < cs.length), vs[i]? = some cs[i].1
  each : ∀ r ∈ cs, ∃ g us, r.1 = .slice (some ⟨g, 0, none⟩) r.2.length r.2.length ∧ RowAt w g us ∧ us.size = r.2.length ∧ C ≤ g ∧ g < L
  lo : C ≤ b
  hi : b < L
theorem ClM.below {C L : Nat} {w w' : World} {b : Nat} {cs : List LCl} (h : ClM C L w b cs) (hb : Below w.heap.size w w') : ClM C L w' b cs := by
  refine ⟨?_, fun r hr => ?_, h.lo, h.hi⟩
  · obtain ⟨vs, h1, h2⟩ := h.row
    exact ⟨vs, (hb.block b (Array.getElem?_eq_some_iff.1 h1).1).trans h1, h2⟩
  · obtain ⟨g, us, e, hz, r⟩ := h.each r hr
    exact ⟨g, us, e, (hb.block g hz.lt).trans hz, r⟩
theorem ClM.btw {C L X Y : Nat} {w w' : World} {b : Nat} {cs : List LCl} (h : ClM C L w b cs) (hb : Btw X Y w w') (hc : L ≤ X ∨ Y ≤ C) : ClM C L w' b cs := by
  have hlo := h.lo
  have hhi := h.hi
  refine ⟨?_, fun r hr => ?_, h.lo, h.hi⟩
  · obtain ⟨vs, h1, h2⟩ := h.row
    exact ⟨vs, (hb.block b (Array.getElem?_eq_some_iff.1 h1).1 (by omega)).trans h1, h2⟩
  · obtain ⟨g, us, e, hz, g1, g2, g3⟩ := h.each r hr
    exact ⟨g, us, e, (hb.block g hz.lt (by omega)).trans hz, g1, g2, g3⟩
theorem ClM.at {C L : Nat} {w : World} {b : Nat} {cs : List LCl} (h : ClM C L w b cs) (i : Nat) (hi : i < cs.length) : b < w.heap.size ∧ w.cell? ⟨b, i, none⟩ = some cs[i].1 := by
  obtain ⟨vs, h1, h2, h3⟩ := h.row
  exact ⟨(Array.getElem?_eq_some_iff.1 h1).1, by simp [World.cell?, h1, h3 i hi]⟩
/-- A box with an answer. -/
def BoxW (w : World) (b : Nat) (v : Value) (x1 x2 : Int) : Prop := w.heap[b]? = some (.cells #[v, .int .i64 x1, .int .i64 x2] 53)
theorem BoxW.facts {w : World} {b : Nat} {x1 x2 : Int} {v : Value} (h : BoxW w b v x1 x2) : b < w.heap.size ∧ w.cell? ⟨b, 0, none⟩ = some v ∧ w.cell? ⟨b, 1, none⟩ = some (.int .i64 x1) ∧ w.cell? ⟨b, 2, none⟩ = some (.int .i64 x2) := by
  unfold BoxW at h
  refine ⟨(Array.getElem?_eq_some_iff.1 h).1, ?_, ?_, ?_⟩ <;> simp [World.cell?, h]
theorem BoxW.below {w w' : World} {b : Nat} {x1 x2 : Int} {v : Value} (h : BoxW w b v x1 x2) (hb : Below w.heap.size w w') : BoxW w' b v x1 x2 := (hb.block b h.facts.1).trans h
theorem BoxW.btw {X Y : Nat} {w w' : World} {b : Nat} {x1 x2 : Int} {v : Value} (h : BoxW w b v x1 x2) (hb : Btw X Y w w') (hc : b < X ∨ Y ≤ b) : BoxW w' b v x1 x2 := (hb.block b h.facts.1 hc).trans h
theorem BoxW.grown {w w' : World} {b : Nat} {x1 x2 : Int} {v : Value} (h : BoxW w b v x1 x2) {C n : Nat} {u : Value} {xs : List Value} (o : w.ownsRow C 2 1 u n xs) (g : w.grownBy w' u.ownBlock) : BoxW w' b v x1 x2 := by
  refine (g.block b h.facts.1 fun e => ?_).trans h
  obtain ⟨cur, hk⟩ := own_kind o e.symm
  have h2 : w.heap[b]? = some (.cells #[v, .int .i64 x1, .int .i64 x2] 53) := h
  rw [h2] at hk
  simp at hk
/-- An owned row of numbers. -/
def OwZ (w : World) (B : Nat) (v : Value) (n : Nat) (xs : List Value) : Prop := w.ownsRow B 2 1 v n xs
theorem OwZ.below {w w' : World} {B : Nat} {v : Value} {n : Nat} {xs : List Value} (h : OwZ w B v n xs) (hb : Below w.heap.size w w') : OwZ w' B v n xs := own_below h hb
theorem OwZ.up {X Y B : Nat} {w w' : World} {v : Value} {n : Nat} {xs : List Value} (h : OwZ w B v n xs) (hb : Btw X Y w w') (hY : Y ≤ B) : OwZ w' B v n xs := own_btw h hb (fun j hj => .inr (Nat.le_trans hY (World.ownsRow.lt h j hj).1))
/-- The same, all below block L. -/
def OwL (w : World) (L : Nat) (v : Value) (n : Nat) (xs : List Value) : Prop := (∃ B, w.ownsRow B 2 1 v n xs) ∧ (∀ j, v.ownBlock = some j → j < L) ∧ L ≤ w.heap.size
theorem OwL.below {w w' : World} {L : Nat} {v : Value} {n : Nat} {xs : List Value} (h : OwL w L v n xs) (hb : Below w.heap.size w w') : OwL w' L v n xs := by
  obtain ⟨⟨B, h1⟩, h2, h3⟩ := h
  exact ⟨⟨B, own_below h1 hb⟩, h2, Nat.le_trans h3 hb.size⟩
theorem OwZ.low {w : World} {B : Nat} {v : Value} {n : Nat} {xs : List Value} (h : OwZ w B v n xs) : OwL w w.heap.size v n xs := ⟨⟨B, h⟩, fun j hj => (World.ownsRow.lt h j hj).2, Nat.le_refl _⟩

end Go.Proofs.Ytdmnnclbcljdmaa
namespace Go.Proofs.Ytdmnnclbcljdmaa
open Go.RowKit
set_option linter.unusedVariables false

/-- One row of them written over. -/
theorem OwC.over {w w' : World} {B : Nat} {v : Value} {ps ss : List LCl} {r : LCl} {zs : List Int} (h : OwC w B v (ps ++ r :: ss)) (hg : w.grownBy w' r.1.ownBlock) (hz : zs.length = r.2.length) (hr : w'.ownsRow B 2 1 r.1 zs.length (valsZ zs)) : OwC w' B v (ps ++ (r.1, zs) :: ss) := by
  have hp := List.pairwise_append.1 h.diff
  have hc := List.pairwise_cons.1 hp.2.1
  have hro := h.each r (by simp)
  refine ⟨?_, fun s hs => ?_, ?_⟩
  · have e1 : hdC (ps ++ (r.1, zs) :: ss) = hdC (ps ++ r :: ss) := by simp [hdC]
    have e2 : (ps ++ (r.1, zs) :: ss).length = (ps ++ r :: ss).length := by simp
    rw [e1, e2]
    exact h.row.kept hg (own_diff h.row hro (by decide))
  · rcases List.mem_append.1 hs with hs | hs
    · exact (h.each s (by simp [hs])).kept hg (hp.2.2 s hs r (by simp))
    · rcases List.mem_cons.1 hs with rfl | hs
      · exact hr
      · refine (h.each s (by simp [hs])).kept hg ?_
        rcases hc.1 s hs with e | e
        · rw [e]; cases s.1.ownBlock <;> simp
        · exact .inr (fun e2 => e e2.symm)
  · refine List.pairwise_append.2 ⟨hp.1, List.pairwise_cons.2 ⟨fun s hs => hc.1 s hs, hc.2⟩, fun a ha b hb => ?_⟩
    rcases List.mem_cons.1 hb with rfl | hb
    · exact hp.2.2 a ha r (by simp)
    · exact hp.2.2 a ha b (by simp [hb])

end Go.Proofs.Ytdmnnclbcljdmaa
namespace Go.Proofs.Ytdmnnclbcljdmaa
open Go.RowKit
set_option linter.unusedVariables false

abbrev SA (x : Int) (vt vl : Value) (st c : Int) : Value := .agg #[.int .i64 x, vt, vl, .int .i64 st, .int .i64 c]
/-- An answer in a block of its own. -/
def BoxS (w : World) (b : Nat) (x : Int) (vt vl : Value) (st c : Int) : Prop := w.heap[b]? = some (.cells #[.int .i64 x, vt, vl, .int .i64 st, .int .i64 c] 30)
theorem BoxS.facts {w : World} {b : Nat} {x st c : Int} {vt vl : Value} (h : BoxS w b x vt vl st c) : b < w.heap.size ∧ w.cell? ⟨b, 0, none⟩ = some (.int .i64 x) ∧ w.cell? ⟨b, 1, none⟩ = some vt ∧ w.cell? ⟨b, 2, none⟩ = some vl ∧ w.cell? ⟨b, 3, none⟩ = some (.int .i64 st) ∧ w.cell? ⟨b, 4, none⟩ = some (.int .i64 c) := by
  obtain ⟨e0, e1, e2, e3, e4⟩ := cells5 h
  exact ⟨(Array.getElem?_eq_some_iff.1 h).1, e0, e1, e2, e3, e4⟩
theorem BoxS.below {w w' : World} {b : Nat} {x st c : Int} {vt vl : Value} (h : BoxS w b x vt vl st c) (hb : Below w.heap.size w w') : BoxS w' b x vt vl st c := (hb.block b h.facts.1).trans h

end Go.Proofs.Ytdmnnclbcljdmaa
namespace Go.Proofs.Ytdmnnclbcljdmaa
open Go.RowKit
set_option linter.unusedVariables false

theorem solF_small (css : List (List Int)) (V : Nat) : ∀ (n : Nat) (st : Int) (L : List (List Int)) (D : List Int), (solF css V n st L D).2.1.length ≤ V ∧ (solF css V n st L D).2.2.1.length ≤ L.length + n ∧ ∀ l ∈ (solF css V n st L D).2.2.1, l ∈ L ∨ l.length ≤ D.length + n
  | 0, st, L, D => ⟨Nat.zero_le _, Nat.le_refl _, fun l hl => .inl hl⟩
  | n + 1, st, L, D => by
    unfold solF
    split
    · split
      · exact ⟨trL_len _ _, by simp, fun l hl => .inl hl⟩
      · obtain ⟨h1, h2, h3⟩ := solF_small css V n (st + 1) L (D ++ [(opn (uRun css L D).1 V 1 : Int)])
        refine ⟨h1, by omega, fun l hl => ?_⟩
        rcases h3 l hl with h | h
        · exact .inl h
        · exact .inr (by simp at h; omega)
    · split
      · refine ⟨Nat.zero_le _, by simp, fun l hl => ?_⟩
        rcases List.mem_append.1 hl with h | h
        · exact .inl h
        · rw [List.mem_singleton.1 h, negL_len]; exact .inr (by omega)
      · obtain ⟨h1, h2, h3⟩ := solF_small css V n (st + 1) (L ++ [negL D]) D.dropLast
        refine ⟨h1, by simp at h2; omega, fun l hl => ?_⟩
        rcases h3 l hl with h | h
        · rcases List.mem_append.1 h with h | h
          · exact .inl h
          · rw [List.mem_singleton.1 h, negL_len]; exact .inr (by omega)
        · exact .inr (by simp at h; omega)
theorem solA_small (vars : Int) (css : List (List Int)) (bud : Int) : (solA vars css bud).1.2.1.length ≤ 900 ∧ (solA vars css bud).1.2.2.1.length ≤ 1000 ∧ ∀ l ∈ (solA vars css bud).1.2.2.1, l.length ≤ 1000 := by
  by_cases h : SolOk vars css bud
  · rw [solA_yes h]
    obtain ⟨h1, h2, h3⟩ := solF_small css vars.toNat bud.toNat 0 [] []
    have a1 := h.1.1.1
    have a2 := h.1.1.2
    have a3 := h.2.1
    have a4 := h.2.2
    refine ⟨by simp only []; omega, by simp only [List.length_nil] at h2 ⊢; omega, fun l hl => ?_⟩
    rcases h3 l hl with g | g
    · cases g
    · simp only [List.length_nil] at g; omega
  · rw [solA_no h]; exact ⟨by simp, by simp, fun l hl => by cases hl⟩
theorem OwC.btw {X Y B : Nat} {w w' : World} {v : Value} {cs : List LCl} (h : OwC w B v cs) (hb : Btw X Y w w') (hv : ∀ j, v.ownBlock = some j → j < X ∨ Y ≤ j) (hr : ∀ r ∈ cs, ∀ j, r.1.ownBlock = some j → j < X ∨ Y ≤ j) : OwC w' B v cs :=
  ⟨own_btw h.row hb hv, fun r hr2 => own_btw (h.each r hr2) hb (hr r hr2), h.diff⟩
/-- The argument's box, and that nothing of the caller's has turned. -/
structure LA (w : World) (vars : Int) (sl : Option Addr) (n cap : Nat) (W : World) : Prop where
  bel : Below w.heap.size w W
  arg : W.heap[w.heap.size]? = some (.cells #[.int .i64 vars, .slice sl n cap] 38)
theorem LA.below {w : World} {vars : Int} {sl : Option Addr} {n cap : Nat} {W W' : World} (h : LA w vars sl n cap W) (hb : Below W.heap.size W W') : LA w vars sl n cap W' :=
  ⟨bT h.bel hb, (hb.block _ (Array.getElem?_eq_some_iff.1 h.arg).1).trans h.arg⟩
theorem LA.low {w : World} {vars : Int} {sl : Option Addr} {n cap : Nat} {W W' : World} (h : LA w vars sl n cap W) {C : Nat} (hb : Below C W W') (hC : w.heap.size < C) : LA w vars sl n cap W' :=
  ⟨h.bel.trans (hb.mono (by omega)), (hb.block _ hC).trans h.arg⟩
theorem LA.cells {w : World} {vars : Int} {sl : Option Addr} {n cap : Nat} {W : World} (h : LA w vars sl n cap W) : w.heap.size < W.heap.size ∧ W.cell? ⟨w.heap.size, 0, none⟩ = some (.int .i64 vars) ∧ W.cell? ⟨w.heap.size, 1, none⟩ = some (.slice sl n cap) := by
  have ha := h.arg
  exact ⟨(Array.getElem?_eq_some_iff.1 ha).1, by simp [World.cell?, ha], by simp [World.cell?, ha]⟩
/-- What the program answered. -/
structure LG (B b : Nat) (s : Option Addr) (tn k : Nat) (l : Option Addr) (ln j : Nat) (x st c : Int) (xs : List Value) (ms : List LCl) (W : World) : Prop where
  row : W.ownsRow B 2 1 (.slice s tn k) tn xs
  ol : OwC W B (.slice l ln j) ms
  box : BoxS W b x (.slice s tn k) (.slice l ln j) st c
section
variable {B b : Nat} {s : Option Addr} {tn k : Nat} {l : Option Addr} {ln j : Nat} {x st c : Int} {xs : List Value} {ms : List LCl} {W W' : World}
theorem LG.below (h : LG B b s tn k l ln j x st c xs ms W) (hb : Below W.heap.size W W') : LG B b s tn k l ln j x st c xs ms W' := ⟨own_below h.row hb, h.ol.below hb, h.box.below hb⟩
theorem LG.up {X Y : Nat} (h : LG B b s tn k l ln j x st c xs ms W) (hb : Btw X Y W W') (h1 : Y ≤ B) (h2 : Y ≤ b) : LG B b s tn k l ln j x st c xs ms W' :=
  ⟨own_btw h.row hb (fun i hi => .inr (Nat.le_trans h1 (h.row.lt i hi).1)), h.ol.btw hb (fun i hi => .inr (Nat.le_trans h1 (h.ol.row.lt i hi).1)) (fun r hr i hi => .inr (Nat.le_trans h1 ((h.ol.each r hr).lt i hi).1)), (hb.block b h.box.facts.1 (.inr h2)).trans h.box⟩
/-- What the model answered, below block M. -/
structure LW (M b : Nat) (s : Option Addr) (tn k : Nat) (l : Option Addr) (ln j : Nat) (x st c : Int) (xs : List Value) (ms : List LCl) (W : World) : Prop where
  own : ∃ B, W.ownsRow B 2 1 (.slice s tn k) tn xs ∧ OwC W B (.slice l ln j) ms
  lo : (∀ i, (Value.slice s tn k).ownBlock = some i → i < M) ∧ (∀ i, (Value.slice l ln j).ownBlock = some i → i < M) ∧ ∀ r ∈ ms, ∀ i, r.1.ownBlock = some i → i < M
  box : BoxS W b x (.slice s tn k) (.slice l ln j) st c
theorem LW.below {M : Nat} (h : LW M b s tn k l ln j x st c xs ms W) (hb : Below W.heap.size W W') : LW M b s tn k l ln j x st c xs ms W' := by
  obtain ⟨B, h1, h2⟩ := h.own
  exact ⟨⟨B, own_below h1 hb, h2.below hb⟩, h.lo, h.box.below hb⟩
end
/-- The copy that was handed in. -/
structure LX (vars : Int) (n b4 C4 c1 : Nat) (cs : List LCl) (W : World) : Prop where
  box : CnfAt W b4 vars (some ⟨c1, 0, none⟩) n n
  x0 : CnO C4 W c1 cs
theorem LX.below {vars : Int} {n b4 C4 c1 : Nat} {cs : List LCl} {W W' : World} (h : LX vars n b4 C4 c1 cs W) (hb : Below W.heap.size W W') : LX vars n b4 C4 c1 cs W' := ⟨h.box.below hb, h.x0.below hb⟩

end Go.Proofs.Ytdmnnclbcljdmaa
