/-
  DOES A LIST RISE WITHIN BOUNDS?
  THE FIRST CLAUSE THAT IS NOT TRUE: impl.CnfFault, impl.CnfTrue.
  WHAT FNBUDGET ASKS OF AN ANSWER, as lists.
  CLAUSES AND A BUDGET, DRAWN: what DrawSolve answers.
  NUMBERS COPIED AND COMPARED, AND LISTS OF THEM: lwCopy, lwSame, lwLists.
  COPIES WITH MEMORY OF THEIR OWN; marks over them; what an answer of a run is held against, marked and held by.
  AN ANSWER OF THE SOLVER, held against another one, marked, and held by its marks: eqSolveOut, markSolveOut, heldSolveOut.
  THE LAW OF SOLVE: the walk.
-/
import Derived.Test.YtoobcodlgajieaaDoorKUaa
import Derived.Test.YtoobcodlgajieaaDoorKXac
import Derived.Test.YtoobcodlgajieaaDoorKXaf
namespace Go.Proofs.YtoobcodlgajieaaDoor
open Go.RowKit
set_option linter.unusedVariables false

set_option maxHeartbeats 400000 in
theorem rw_nil (lo hi : Int) (sl : Option Addr) (cap : Nat) (w : World) :
    Calls Tryd.prog 101 #[.slice sl 0 cap, .int .i64 lo, .int .i64 hi] w fun e w' => e = .returned (.bool true) ∧ w' = w := by
  go_enter Tryd.func101, Tryd.ntmps101
  go_wp2
  refine wp_loop_rounds 1 ?_
  rw [rounds_succ]
  go_wp2
  go_ret
  exact ⟨rfl, rfl⟩

set_option maxHeartbeats 1000000 in
theorem rw_some (lo hi : Int) (c o cap : Nat) (zs : List Int) (w : World) (hn : zs.length ≤ maxLen) (hz : IntsAt w c o zs) :
    Calls Tryd.prog 101 #[.slice (some ⟨c, o, none⟩) zs.length cap, .int .i64 lo, .int .i64 hi] w fun e w' => e = .returned (.bool (B (InRise lo hi zs))) ∧ Below w.heap.size w w' := by
  unfold maxLen at hn
  have HZ := Lib.hid hz
  clear hz
  generalize hN : zs.length = n at *
  have HN := Lib.hid hN
  clear hN
  go_enter Tryd.func101, Tryd.ntmps101
  go_wp2
  go_loopw [11] (fun i wr => ∃ k : Nat, i = .int .i64 k ∧ k ≤ n ∧ Hid (UpTo lo hi zs k) ∧ Hid (Below w.heap.size w wr)) (fun i _ => n - (intOf i).toNat)
  case atStart => exact ⟨0, rfl, Nat.zero_le _, UpTo.zero _ _ _, Below.refl _ _⟩
  case round =>
    obtain ⟨k, rfl, hk, H1, H2⟩ := hrel
    have hk0 : (0 : Int) ≤ (k : Int) := by omega
    by_cases h1 : k < n
    · have h1' : (k : Int) < (n : Int) := by omega
      have hlt : k < zs.length := by rw [HN.out]; exact h1
      have hc : wr.cell? ⟨c, o + k, none⟩ = some (.int .i64 (zs.getD k 0)) := (H2.out.cell HZ.out.1).trans (HZ.out.2 k hlt)
      by_cases a1 : zs.getD k 0 < lo
      · have HF := Lib.hid (B_no (UpTo.no (lo := lo) (hi := hi) hlt (fun g => by have := g.1; omega)))
        clear hlt
        generalize zs.getD k 0 = z at *
        go_wp2
        go_ret
        exact ⟨by rw [HF.out]; rfl, H2.out⟩
      · by_cases a2 : hi < zs.getD k 0
        · have HF := Lib.hid (B_no (UpTo.no (lo := lo) (hi := hi) hlt (fun g => by have := g.2.1; omega)))
          clear hlt
          generalize zs.getD k 0 = z at *
          go_wp2
          go_ret
          exact ⟨by rw [HF.out]; rfl, H2.out⟩
        · by_cases a3 : 0 < k
          · have a3' : (0 : Int) < (k : Int) := by omega
            have ek : ((k : Int) - 1).toNat = k - 1 := by omega
            have hd : wr.cell? ⟨c, o + (k - 1), none⟩ = some (.int .i64 (zs.getD (k - 1) 0)) := (H2.out.cell HZ.out.1).trans (HZ.out.2 (k - 1) (by omega))
            by_cases a4 : zs.getD k 0 ≤ zs.getD (k - 1) 0
            · have HF := Lib.hid (B_no (UpTo.no (lo := lo) (hi := hi) hlt (fun g => by have := g.2.2 a3; omega)))
              clear hlt
              generalize zs.getD k 0 = z at *
              generalize zs.getD (k - 1) 0 = y at *
              go_wp2
              go_ret
              exact ⟨by rw [HF.out]; rfl, H2.out⟩
            · have HS := Lib.hid (H1.out.step (by omega) (by omega) (fun _ => by omega))
              clear hlt
              generalize zs.getD k 0 = z at *
              generalize zs.getD (k - 1) 0 = y at *
              go_wp2
              go_roundw
              case rel => exact ⟨k + 1, by go_num, by omega, HS, H2⟩
              case measure => simp [intOf]; omega
          · have a3' : k = 0 := by omega
            have HS := Lib.hid (H1.out.step (by omega) (by omega) (fun h => absurd h a3))
            clear hlt
            generalize zs.getD k 0 = z at *
            have a5 : ¬ (0 : Int) < (k : Int) := by omega
            clear a3'
            go_wp2
            go_roundw
            case rel => exact ⟨k + 1, by go_num, by omega, HS, H2⟩
            case measure => simp [intOf]; omega
    · have h1' : ¬ (k : Int) < (n : Int) := by omega
      have HE : Hid (B (InRise lo hi zs) = true) := B_yes (by have := H1.out; rwa [show k = zs.length by rw [HN.out]; omega] at this)
      go_wp2
      go_ret
      exact ⟨by rw [HE.out]; rfl, H2.out⟩
theorem rw_any (lo hi : Int) (sl : Option Addr) (cap : Nat) (zs : List Int) (w : World) (hn : zs.length ≤ maxLen) (hz : Ints w sl zs) :
    Calls Tryd.prog 101 #[.slice sl zs.length cap, .int .i64 lo, .int .i64 hi] w fun e w' => e = .returned (.bool (B (InRise lo hi zs))) ∧ Below w.heap.size w w' := by
  rcases hz with rfl | ⟨c, o, rfl, h⟩
  · rw [B_yes (show InRise lo hi [] from UpTo.zero lo hi [])]
    refine (rw_nil lo hi sl cap w).mono ?_
    rintro e w' ⟨rfl, rfl⟩
    exact ⟨rfl, Below.refl _ _⟩
  · exact rw_some lo hi c o cap zs w hn h



/-- The first k clauses are true. -/
def TrTo (ts : List Int) (zss : List (List Int)) (k : Nat) : Prop := ∀ i, i < k → ClT ts (zss.getD i [])
theorem TrTo.zero (ts : List Int) (zss : List (List Int)) : TrTo ts zss 0 := fun i h => absurd h (Nat.not_lt_zero _)
theorem TrTo.step {ts : List Int} {zss : List (List Int)} {k : Nat} (h : TrTo ts zss k) (g : ClT ts (zss.getD k [])) : TrTo ts zss (k + 1) := fun i hi => by
  by_cases e : i = k
  · subst e; exact g
  · exact h i (by omega)
def FstNo (ts : List Int) (zss : List (List Int)) (k : Nat) : Prop := k < zss.length ∧ TrTo ts zss k ∧ ¬ ClT ts (zss.getD k [])
open Classical in
/-- The place of the first clause that is not true; -1 if all are. -/
noncomputable def fF (ts : List Int) (zss : List (List Int)) : Int := if h : ∃ k, FstNo ts zss k then (Classical.choose h : Nat) else -1
theorem fF_at {ts : List Int} {zss : List (List Int)} {k : Nat} (h : FstNo ts zss k) : fF ts zss = k := by
  have hex : ∃ k, FstNo ts zss k := ⟨k, h⟩
  unfold fF
  rw [dif_pos hex]
  have hs := Classical.choose_spec hex
  generalize Classical.choose hex = j at *
  have : ¬ j < k := fun g => hs.2.2 (h.2.1 j g)
  have : ¬ k < j := fun g => h.2.2 (hs.2.1 k g)
  omega
theorem fF_all {ts : List Int} {zss : List (List Int)} {k : Nat} (hk : zss.length ≤ k) (h : TrTo ts zss k) : fF ts zss = -1 := by
  unfold fF
  rw [dif_neg]
  rintro ⟨j, g⟩
  exact g.2.2 (h j (by have := g.1; omega))
open Classical in
/-- What CnfFault answers. -/
noncomputable def fC (vars : Int) (zss : List (List Int)) (ts : List Int) : Int := if 400 < ts.length then 0 else if CnfR vars zss ∧ InRise 1 vars ts then fF ts zss else -2
theorem fC_long {vars : Int} {zss : List (List Int)} {ts : List Int} (h : 400 < ts.length) : fC vars zss ts = 0 := by unfold fC; rw [if_pos h]
theorem fC_no {vars : Int} {zss : List (List Int)} {ts : List Int} (h : ¬ 400 < ts.length) (g : ¬ (CnfR vars zss ∧ InRise 1 vars ts)) : fC vars zss ts = -2 := by unfold fC; rw [if_neg h, if_neg g]
theorem fC_yes {vars : Int} {zss : List (List Int)} {ts : List Int} (h : ¬ 400 < ts.length) (g : CnfR vars zss ∧ InRise 1 vars ts) : fC vars zss ts = fF ts zss := by unfold fC; rw [if_neg h, if_pos g]

set_option maxRecDepth 100000 in
set_option maxHeartbeats 4000000 in
/-- impl.CnfFault. -/
theorem icf_any (vars : Int) (sl : Option Addr) (cap : Nat) (cs : List LCl) (sl2 : Option Addr) (cap2 : Nat) (ts : List Int) (w : World) (hn : cs.length ≤ maxLen) (hm : ts.length ≤ maxLen) (hz : Cls w sl cs) (ht : Ints w sl2 ts) :
    Calls Tryd.prog 65 #[CV vars sl cs.length cap, .slice sl2 ts.length cap2] w fun e w' => e = .returned (.int .i64 (fC vars (bareC cs) ts)) ∧ Below w.heap.size w w' := by
  have CA := Lib.hid (CnfAt.new w vars sl cs.length cap)
  have B0 := Lib.hid (bA0 w (.cells #[.int .i64 vars, .slice sl cs.length cap] 25))
  have HB := Lib.hid (bareC_length cs)
  by_cases c1 : 400 < ts.length
  · rw [fC_long c1]
    have c1' : (400 : Int) < (ts.length : Int) := by omega
    clear hz ht HB
    unfold maxLen at hm
    generalize cs.length = n at *
    generalize ts.length = m at *
    go_enter Tryd.func65, Tryd.ntmps65
    go_wp2
    go_ret
    exact ⟨rfl, B0.out⟩
  have c1' : ¬ (400 : Int) < (ts.length : Int) := by omega
  have E1 : Hid (∀ W, Below w.heap.size w W → Calls Tryd.prog 51 #[CV vars sl cs.length cap] W fun e w' => e = .returned (.bool (B (CnfR vars (bareC cs)))) ∧ Below W.heap.size W w') := fun W hW => icr_any vars sl cap cs W hn (hz.below hW)
  have E2 : Hid (∀ W, Below w.heap.size w W → Calls Tryd.prog 101 #[.slice sl2 ts.length cap2, .int .i64 1, .int .i64 vars] W fun e w' => e = .returned (.bool (B (InRise 1 vars ts))) ∧ Below W.heap.size W w') := fun W hW => rw_any 1 vars sl2 cap2 ts W hm (ht.below hW)
  unfold maxLen at hm hn
  cases hb : B (CnfR vars (bareC cs)) with
  | false =>
    rw [fC_no c1 (fun g => B_false hb g.1)]
    rw [hb] at E1
    clear hb hz ht HB E2
    generalize cs.length = n at *
    generalize ts.length = m at *
    go_enter Tryd.func65, Tryd.ntmps65
    go_wp2_with fail
    refine (E1.out _ B0.out).mono ?_
    rintro e w1 ⟨rfl, b1⟩
    have D1 := Lib.hid (bT B0.out b1)
    clear b1 E1
    go_wp2
    go_ret
    exact ⟨rfl, D1.out⟩
  | true =>
    rw [hb] at E1
    cases hc : B (InRise 1 vars ts) with
    | false =>
      rw [fC_no c1 (fun g => B_false hc g.2)]
      rw [hc] at E2
      clear hb hc hz ht HB
      generalize cs.length = n at *
      generalize ts.length = m at *
      go_enter Tryd.func65, Tryd.ntmps65
      go_wp2_with fail
      refine (E1.out _ B0.out).mono ?_
      rintro e w1 ⟨rfl, b1⟩
      have D1 := Lib.hid (bT B0.out b1)
      have TA := CA.out.below b1
      obtain ⟨t0, t1⟩ := TA.cells
      have tl := TA.lt
      clear b1 E1 TA
      go_wp2_with fail
      refine (E2.out _ D1.out).mono ?_
      rintro e w2 ⟨rfl, b2⟩
      have D2 := Lib.hid (bT D1.out b2)
      clear b2 E2
      go_wp2
      go_ret
      exact ⟨rfl, D2.out⟩
    | true =>
      rw [hc] at E2
      have CR := Lib.hid (B_true hb)
      have FV := Lib.hid (fC_yes c1 ⟨B_true hb, B_true hc⟩)
      have YY := Lib.hid (show ∀ k, cs.length ≤ k → TrTo ts (bareC cs) k → fC vars (bareC cs) ts = -1 from fun k hk h => FV.out.trans (fF_all (by rw [HB.out]; exact hk) h))
      have NN := Lib.hid (show ∀ k, k < cs.length → TrTo ts (bareC cs) k → ¬ ClT ts ((bareC cs).getD k []) → fC vars (bareC cs) ts = k from fun k hk h g => FV.out.trans (fF_at ⟨by rw [HB.out]; exact hk, h, g⟩))
      have HZ := Lib.hid hz
      have HT := Lib.hid ht
      have HM := Lib.hid (show ts.length ≤ 1048576 by omega)
      have HC := Lib.hid (show ∀ r ∈ cs, r.2.length ≤ 1048576 from fun r hr => by
        obtain ⟨k, h, rfl⟩ := List.getElem_of_mem hr
        have := (CR.out.2.2 k (by rw [HB.out]; exact h)).1
        rw [bareC_get h] at this
        omega)
      clear hz ht HB hb hc FV CR
      generalize hN : cs.length = n at *
      have HN := Lib.hid hN
      clear hN
      have EK : Hid (∀ r ∈ cs, ∀ s1 k1 W, Below w.heap.size w W → Ints W s1 r.2 → Calls Tryd.prog 102 #[.slice s1 r.2.length k1, .slice sl2 ts.length cap2] W fun e w' => e = .returned (.bool (B (ClT ts r.2))) ∧ Below W.heap.size W w') := fun r h s1 k1 W hW i => clt_any s1 k1 r.2 sl2 cap2 ts W (HC.out r h) HM.out i (HT.out.below hW)
      clear HT HM HC
      generalize ts.length = m at *
      go_enter Tryd.func65, Tryd.ntmps65
      go_wp2_with fail
      refine (E1.out _ B0.out).mono ?_
      rintro e w1 ⟨rfl, b1⟩
      have D1 := Lib.hid (bT B0.out b1)
      have TA := CA.out.below b1
      obtain ⟨t0, t1⟩ := TA.cells
      have tl := TA.lt
      have CA1 := Lib.hid TA
      clear b1 E1 TA CA
      go_wp2_with fail
      refine (E2.out _ D1.out).mono ?_
      rintro e w2 ⟨rfl, b2⟩
      have D2 := Lib.hid (bT D1.out b2)
      have TA := CA1.out.below b2
      clear t0 t1 tl
      obtain ⟨t0, t1⟩ := TA.cells
      have tl := TA.lt
      have CA2 := Lib.hid TA
      clear b2 E2 TA CA1 D1
      go_wp2
      clear t0 t1 tl
      go_loopw [23] (fun i wr => ∃ k : Nat, i = .int .i64 k ∧ k ≤ n ∧ Hid (TrTo ts (bareC cs) k) ∧ Hid (Below w2.heap.size w2 wr)) (fun i _ => n - (intOf i).toNat)
      case atStart => exact ⟨0, rfl, Nat.zero_le _, TrTo.zero _ _, Below.refl _ _⟩
      case round =>
        obtain ⟨k, rfl, hk, IT, H2⟩ := hrel
        have hk0 : (0 : Int) ≤ (k : Int) := by omega
        have DW := Lib.hid (bT D2.out H2.out)
        by_cases g1 : k < n
        · have g1' : (k : Int) < (n : Int) := by omega
          have hlt : k < cs.length := by rw [HN.out]; exact g1
          obtain ⟨c, o, rfl, Z0⟩ := HZ.out.at hlt
          have hc := (Z0.below DW.out).2 k hlt
          obtain ⟨s1, k1, v1, i1, l1⟩ := (HZ.out.each cs[k] (List.getElem_mem hlt)).below DW.out
          rw [v1] at hc
          have E := Lib.hid (EK.out cs[k] (List.getElem_mem hlt) s1 k1 wr DW.out i1)
          have BG := Lib.hid (bareC_get hlt)
          cases hb : B (ClT ts cs[k].2) with
          | true =>
            rw [hb] at E
            have IT2 := Lib.hid (IT.out.step (by rw [BG.out]; exact B_true hb))
            clear hb IT i1 l1 Z0 v1 BG
            generalize cs[k].2.length = q at *
            clear hlt EK
            go_wp2_with fail
            refine E.out.mono ?_
            rintro e w5 ⟨rfl, b5⟩
            have D5 := Lib.hid (bT H2.out b5)
            clear b5 E
            go_wp2
            go_roundw
            case rel => exact ⟨k + 1, by go_num, by omega, IT2, D5⟩
            case measure => simp [intOf]; omega
          | false =>
            rw [hb] at E
            have NO := Lib.hid (NN.out k g1 IT.out (by rw [BG.out]; exact B_false hb))
            clear hb IT i1 l1 Z0 v1 BG
            generalize cs[k].2.length = q at *
            clear hlt EK
            go_wp2_with fail
            refine E.out.mono ?_
            rintro e w5 ⟨rfl, b5⟩
            have D5 := Lib.hid (bT DW.out b5)
            clear b5 E
            go_wp2
            go_ret
            exact ⟨by rw [NO.out]; rfl, D5.out⟩
        · have g1' : ¬ (k : Int) < (n : Int) := by omega
          have YES := Lib.hid (YY.out k (by omega) IT.out)
          clear IT EK
          go_wp2
          go_ret
          exact ⟨by rw [YES.out]; rfl, DW.out⟩

set_option maxRecDepth 100000 in
set_option maxHeartbeats 1000000 in
/-- impl.CnfTrue. -/
theorem ict_any (vars : Int) (sl : Option Addr) (cap : Nat) (cs : List LCl) (sl2 : Option Addr) (cap2 : Nat) (ts : List Int) (w : World) (hn : cs.length ≤ maxLen) (hm : ts.length ≤ maxLen) (hz : Cls w sl cs) (ht : Ints w sl2 ts) :
    Calls Tryd.prog 21 #[CV vars sl cs.length cap, .slice sl2 ts.length cap2] w fun e w' => e = .returned (.bool (fC vars (bareC cs) ts == -1)) ∧ Below w.heap.size w w' := by
  have B0 := Lib.hid (bA0 w (.cells #[.int .i64 vars, .slice sl cs.length cap] 25))
  have E1 := Lib.hid (icf_any vars sl cap cs sl2 cap2 ts _ hn hm (hz.below B0.out) (ht.below B0.out))
  clear hz ht hn hm
  generalize fC vars (bareC cs) ts = f at *
  generalize cs.length = n at *
  generalize ts.length = m at *
  go_enter Tryd.func21, Tryd.ntmps21
  go_wp2_with fail
  refine E1.out.mono ?_
  rintro e w1 ⟨rfl, b1⟩
  have D1 := Lib.hid (bT B0.out b1)
  clear b1 E1
  go_wp2
  go_ret
  exact ⟨rfl, D1.out⟩


theorem sok_nil {vars : Int} {css : List (List Int)} (h : CnfR vars css) (hw : ∀ l ∈ css, ∀ z ∈ l, wfI z) : SOk css vars.toNat [] [] := by
  have e : ((vars.toNat : Nat) : Int) = vars := by have := h.1.1; omega
  refine ⟨fun l hl z hz => ?_, (fun l hl => by cases hl), fun i hi => absurd hi (Nat.not_lt_zero _)⟩
  rw [e]
  obtain ⟨i, hi, rfl⟩ := List.getElem_of_mem hl
  have hc : ClR vars (css.getD i []) := h.2.2 i hi
  simp only [List.getD_eq_getElem?_getD, List.getElem?_eq_getElem hi, Option.getD_some] at hc
  exact (lv_in h.1.1 h.1.2 (hw _ hl z hz)).1 (hc.2.1 z hz)
theorem trL_up (T : List Int) : ∀ n : Nat, (trL T n).Pairwise (· < ·)
  | 0 => List.Pairwise.nil
  | n + 1 => by
    by_cases hv : val T ((n : Int) + 1) = 1
    · rw [trL_yes hv, List.pairwise_append]
      refine ⟨trL_up T n, List.pairwise_singleton _ _, fun a ha b hb => ?_⟩
      rw [List.mem_singleton] at hb
      have := ((trL_mem T n a).1 ha).1
      omega
    · rw [trL_no hv]; exact trL_up T n
theorem rise_up {zs : List Int} {hi : Int} (h : zs.Pairwise (· < ·)) (hm : ∀ z ∈ zs, 1 ≤ z ∧ z ≤ hi) : InRise 1 hi zs := fun i hi' => by
  have hg : zs.getD i 0 = zs[i] := by simp [List.getD_eq_getElem?_getD, hi']
  refine ⟨by rw [hg]; exact hm _ (List.getElem_mem hi'), fun h0 => ?_⟩
  have hi2 : i - 1 < zs.length := by omega
  have hg2 : zs.getD (i - 1) 0 = zs[i - 1] := by simp [List.getD_eq_getElem?_getD, hi2]
  rw [hg, hg2]
  exact List.pairwise_iff_getElem.1 h (i - 1) i hi2 hi' (by omega)
theorem solF_trues (css : List (List Int)) (V : Nat) : ∀ (n : Nat) (st : Int) (L : List (List Int)) (D : List Int), (solF css V n st L D).2.1 = [] ∨ ∃ T, (solF css V n st L D).2.1 = trL T V
  | 0, st, L, D => .inl rfl
  | n + 1, st, L, D => by
    unfold solF
    split
    · split
      · exact .inr ⟨_, rfl⟩
      · exact solF_trues css V n _ _ _
    · split
      · exact .inl rfl
      · exact solF_trues css V n _ _ _
theorem clt_of {vars : Int} {ts l : List Int} (h0 : 0 ≤ vars) (h1 : vars ≤ 96) (hl : ∀ z ∈ l, OkZ vars z) (h : ClTrue ts l) : ClT ts l := by
  obtain ⟨z, hz, h⟩ := h
  have hk := hl z hz
  refine ⟨z, hz, ?_⟩
  rw [lv_ok h0 h1 hk]
  rcases h with ⟨a, b⟩ | ⟨a, b⟩
  · rw [show max z (-z) = z by omega]; exact ⟨fun _ => a, fun _ => b⟩
  · rw [show max z (-z) = -z by omega]; exact ⟨fun g => absurd g b, fun g => by omega⟩
theorem solA_code {vars : Int} {css : List (List Int)} {bud : Int} (h : (solA vars css bud).2 = 0) : SolOk vars css bud := by
  by_cases g : SolOk vars css bud
  · exact g
  · rw [solA_no g] at h; cases h
theorem solA_more {vars : Int} {css : List (List Int)} {bud : Int} (h : SolOk vars css bud) (h3 : (solA vars css bud).1.1 ≠ 3) : solA vars css (if bud + 40 < 300 then bud + 40 else 300) = solA vars css bud := by
  have a1 := h.2.1
  have a2 := h.2.2
  have h' : SolOk vars css (if bud + 40 < 300 then bud + 40 else 300) := ⟨h.1, by split <;> omega, by split <;> omega⟩
  rw [solA_yes h] at h3 ⊢
  rw [solA_yes h', solF_more css vars.toNat bud.toNat _ 0 [] [] (by split <;> omega) h3]
theorem solA_steps {vars : Int} {css : List (List Int)} {bud : Int} (h : SolOk vars css bud) : (solA vars css bud).1.2.2.2 ≤ bud := by
  have a1 := h.2.1
  have := solF_steps css vars.toNat bud.toNat 0 [] []
  rw [solA_yes h]
  show (solF css vars.toNat bud.toNat 0 [] []).2.2.2 ≤ bud
  omega
theorem solA_true {vars : Int} {css : List (List Int)} {bud : Int} (h : SolOk vars css bud) (hw : ∀ l ∈ css, ∀ z ∈ l, wfI z) (h1 : (solA vars css bud).1.1 = 1) : fC vars css (solA vars css bud).1.2.1 = -1 := by
  have e : ((vars.toNat : Nat) : Int) = vars := by have := h.1.1.1; omega
  have a2 := h.1.1.2
  have ok := sok_nil h.1 hw
  rw [solA_yes h] at h1 ⊢
  have ht := solF_true (by omega) bud.toNat 0 [] [] ok h1
  have hr := solF_trues css vars.toNat bud.toNat 0 [] []
  show fC vars css (solF css vars.toNat bud.toNat 0 [] []).2.1 = -1
  generalize (solF css vars.toNat bud.toNat 0 [] []).2.1 = ts at *
  have hts : ts.length ≤ 96 ∧ InRise 1 vars ts := by
    rcases hr with rfl | ⟨T, rfl⟩
    · exact ⟨by simp, fun i hi => absurd hi (Nat.not_lt_zero _)⟩
    · refine ⟨by have := trL_len T vars.toNat; omega, rise_up (trL_up T _) (fun z hz => ?_)⟩
      have := ((trL_mem T _ z).1 hz).1
      omega
  rw [fC_yes (by omega) ⟨h.1, hts.2⟩]
  refine fF_all (Nat.le_refl _) (fun i hi => ?_)
  have hg : css.getD i [] = css[i] := by simp [List.getD_eq_getElem?_getD, hi]
  rw [hg]
  have hm : css[i] ∈ css := List.getElem_mem hi
  exact clt_of h.1.1.1 a2 (fun z hz => by have := ok.cl _ hm z hz; rwa [e] at this) (ht _ hm)

end Go.Proofs.YtoobcodlgajieaaDoor
namespace Go.Proofs.YtoobcodlgajieaaDoor
open Go.RowKit

/-- What DrawSolve draws. -/
def DsPost (w : World) (e : Ending) (w' : World) : Prop :=
  ∃ (vars : Int) (vs : Option Addr) (vk : Nat) (cs : List LCl) (bud : Int), e = .returned (.tuple #[CV vars vs cs.length vk, .int .i64 bud]) ∧ (∀ r ∈ cs, r.2.length ≤ 20 ∧ ∀ z ∈ r.2, -100 ≤ z ∧ z ≤ 100) ∧ cs.length ≤ 5000 ∧ -1 ≤ bud ∧ bud ≤ 301 ∧ OwC w' w.heap.size (.slice vs cs.length vk) cs ∧ Below w.heap.size w w'


/-- Numbers put behind numbers: both ways of it. -/
theorem appZD {w : World} {B : Nat} {v : Value} {zs : List Int} (h : w.ownsRow B 2 1 v zs.length (valsZ zs)) {s : Option Addr} {r : List Int} (k : Nat) (hi : Ints w s r) (hB : B ≤ w.heap.size) (hl : zs.length + r.length ≤ 10000000) :
    ∃ v9 w9, (∀ ty, (Builtin.append_ #[26, 26] ty #[v, .slice s r.length k]).run Tryd.prog w = .ok v9 w9) ∧ w9.ownsRow B 2 1 v9 (zs ++ r).length (valsZ (zs ++ r)) ∧ w.grownBy w9 v.ownBlock ∧ ∀ j, v.ownBlock = some j → B ≤ j := by
  obtain ⟨i3, hi3, hd0, hd1, hd2⟩ := info_parts info2'
  have hlo : ∀ j, v.ownBlock = some j → B ≤ j := fun j hj => (h.lt j hj).1
  obtain ⟨sl, cap, rfl⟩ := own_v h
  by_cases he : r = []
  · subst he
    exact ⟨_, w, fun ty => app_none40 w ty sl zs.length cap (own_cap8 h) s k, by rw [List.append_nil]; exact h, ⟨rfl, rfl, rfl, Nat.le_refl _, fun _ _ _ => rfl⟩, hlo⟩
  · rcases hi with hi | ⟨c, o, rfl, hi⟩
    · exact absurd hi he
    · obtain ⟨g, c9, w9, hr, own9, grow9, hg, -⟩ := run_append_lies (P := Tryd.prog) w 26 26 B 2 i3 (.int .i64 0) 1 8 Tryd.underlying26 hi3 hd0 hd1 hd2 rfl (by decide) _ _ _ h ⟨c, o, none⟩ r.length k (valsZ r) (valsZ_len1 r) (int_cells hi) (valsZ_one r) (List.length_pos_iff.2 he) (by unfold maxLen; omega) (by omega) hB w.heap.size rfl
      exact ⟨_, w9, fun ty => hr, by rw [List.length_append, show valsZ (zs ++ r) = valsZ zs ++ valsZ r by simp [valsZ]]; exact own9, grow9, hlo⟩

set_option maxRecDepth 100000 in
set_option maxHeartbeats 2000000 in
/-- laws.lwCopy. -/
theorem lwc_any (sl : Option Addr) (cap : Nat) (zs : List Int) (w : World) (hn : zs.length ≤ 1048576) (hz : Ints w sl zs) :
    Calls Tryd.prog 12 #[.slice sl zs.length cap] w fun e w' => ∃ v, e = .returned v ∧ w'.ownsRow w.heap.size 2 1 v zs.length (valsZ zs) ∧ Below w.heap.size w w' := by
  have B0 := Lib.hid (bA0 w (.cells #[] 2))
  obtain ⟨v9, w9, ha, ow, gr, hj⟩ := appZD (zs := []) (own_none8 w) cap (hz.below B0.out) B0.out.size (by simp; omega)
  have ha' := ha 26
  have O9 : Hid (w9.ownsRow w.heap.size 2 1 v9 zs.length (valsZ zs)) := by
    have := ow
    rwa [List.nil_append] at this
  have B9 := Lib.hid (B0.out.grown gr B0.out.size hj)
  clear ha ow gr hj hz B0
  generalize zs.length = n at *
  go_enter Tryd.func12, Tryd.ntmps12
  go_wp2_with (at_builtin; refine Lib.wpList_append_run _ rfl _ _ _ _ rfl _ _ rfl rfl _ _ ha' ?_)
  go_ret
  exact ⟨_, rfl, O9.out, B9.out⟩

set_option maxRecDepth 100000 in
set_option maxHeartbeats 2000000 in
/-- laws.lwSame, of the same numbers twice. -/
theorem lws_any (sl sl' : Option Addr) (cap cap' : Nat) (zs : List Int) (w : World) (hn : zs.length ≤ maxLen) (hz : Ints w sl zs) (hz' : Ints w sl' zs) :
    Calls Tryd.prog 13 #[.slice sl zs.length cap, .slice sl' zs.length cap'] w fun e w' => e = .returned (.bool true) ∧ Below w.heap.size w w' := by
  unfold maxLen at hn
  have HZ := Lib.hid hz
  have HZ' := Lib.hid hz'
  clear hz hz'
  generalize hN : zs.length = n at *
  have HN := Lib.hid hN
  clear hN
  go_enter Tryd.func13, Tryd.ntmps13
  go_wp2
  go_loopw [5] (fun i wr => ∃ k : Nat, i = .int .i64 k ∧ k ≤ n ∧ Hid (Below w.heap.size w wr)) (fun i _ => n - (intOf i).toNat)
  case atStart => exact ⟨0, rfl, Nat.zero_le _, Below.refl _ _⟩
  case round =>
    obtain ⟨k, rfl, hk, H2⟩ := hrel
    have hk0 : (0 : Int) ≤ (k : Int) := by omega
    by_cases g1 : k < n
    · have g1' : (k : Int) < (n : Int) := by omega
      have hlt : k < zs.length := by rw [HN.out]; exact g1
      obtain ⟨c, o, rfl, Z0⟩ : ∃ c o, sl = some ⟨c, o, none⟩ ∧ IntsAt w c o zs := by
        rcases HZ.out with e | h
        · rw [e] at hlt; simp at hlt
        · exact h
      obtain ⟨c', o', rfl, Z0'⟩ : ∃ c o, sl' = some ⟨c, o, none⟩ ∧ IntsAt w c o zs := by
        rcases HZ'.out with e | h
        · rw [e] at hlt; simp at hlt
        · exact h
      have KS : Hid ((c < wr.drew.heap.size ∧ wr.drew.cell? ⟨c, o + k, none⟩ = some (.int .i64 (zs.getD k 0))) ∧ c' < wr.drew.heap.size ∧ wr.drew.cell? ⟨c', o' + k, none⟩ = some (.int .i64 (zs.getD k 0))) :=
        ⟨⟨Nat.lt_of_lt_of_le Z0.1 H2.out.drew.size, (H2.out.drew.cell (p := ⟨c, o + k, none⟩) Z0.1).trans (Z0.2 k hlt)⟩, Nat.lt_of_lt_of_le Z0'.1 H2.out.drew.size, (H2.out.drew.cell (p := ⟨c', o' + k, none⟩) Z0'.1).trans (Z0'.2 k hlt)⟩
      have D2 := Lib.hid H2.out.drew
      generalize zs.getD k 0 = a at *
      clear Z0 Z0' hlt
      go_wp2_with fail
      refine wp_region_held_drew (S := fun W => (c < W.heap.size ∧ W.cell? ⟨c, o + k, none⟩ = some (.int .i64 a)) ∧ c' < W.heap.size ∧ W.cell? ⟨c', o' + k, none⟩ = some (.int .i64 a)) (by kernel_rfl) ?_ (fun hHeld => ?_)
      · exact KS.out
      refine wpAnyH_take (i := 0) (oi := _) (v := ?_) rfl (by kernel_rfl) (by kernel_rfl) (by kernel_rfl) (fun _ _ _ h => h) (Or.inl ⟨by rfl, ?_⟩) (by assumption) ?_
      rotate_left
      · intro w hSw; (try dsimp only at hSw); go_simp; try with_reducible rfl
      try simp only [Act.put, List.setIfInBounds_toArray, List.set_cons_zero, List.set_cons_succ, List.getElem_toArray, List.getElem_cons_zero]
      refine wpAnyH_take (i := 1) (oi := _) (v := ?_) rfl (by kernel_rfl) (by kernel_rfl) (by kernel_rfl) (fun _ _ _ h => h) (Or.inl ⟨by rfl, ?_⟩) (by assumption) ?_
      rotate_left
      · intro w hSw; (try dsimp only at hSw); go_simp; try with_reducible rfl
      try simp only [Act.put, List.setIfInBounds_toArray, List.set_cons_zero, List.set_cons_succ, List.getElem_toArray, List.getElem_cons_succ, List.getElem_cons_zero]
      refine wpAnyH_take (i := 2) (oi := _) (v := ?_) rfl (by kernel_rfl) (by kernel_rfl) (by kernel_rfl) (fun _ _ _ h => h) (Or.inl ⟨by rfl, ?_⟩) (by assumption) ?_
      rotate_left
      · intro w hSw; (try dsimp only at hSw); go_simp; try with_reducible rfl
      try simp only [Act.put, List.setIfInBounds_toArray, List.set_cons_zero, List.set_cons_succ, List.getElem_toArray, List.getElem_cons_succ, List.getElem_cons_zero]
      refine wpAnyH_take (i := 3) (oi := _) (v := ?_) rfl (by kernel_rfl) (by kernel_rfl) (by kernel_rfl) (fun _ _ _ h => h) (Or.inl ⟨by rfl, ?_⟩) (by assumption) ?_
      rotate_left
      · intro w hSw; (try dsimp only at hSw); go_simp; try with_reducible rfl
      try simp only [Act.put, List.setIfInBounds_toArray, List.set_cons_zero, List.set_cons_succ, List.getElem_toArray, List.getElem_cons_succ, List.getElem_cons_zero]
      refine wpAnyH_take (i := 4) (oi := _) (v := ?_) rfl (by kernel_rfl) (by kernel_rfl) (by kernel_rfl) (fun _ _ _ h => h) (Or.inl ⟨by rfl, ?_⟩) (by assumption) ?_
      rotate_left
      · intro w hSw; (try dsimp only at hSw); go_simp; try with_reducible rfl
      try simp only [Act.put, List.setIfInBounds_toArray, List.set_cons_zero, List.set_cons_succ, List.getElem_toArray, List.getElem_cons_succ, List.getElem_cons_zero]
      refine wpAnyH_take (i := 5) (oi := _) (v := ?_) rfl (by kernel_rfl) (by kernel_rfl) (by kernel_rfl) (fun _ _ _ h => h) (Or.inl ⟨by rfl, ?_⟩) (by assumption) ?_
      rotate_left
      · intro w hSw; (try dsimp only at hSw); go_simp; try with_reducible rfl
      try simp only [Act.put, List.setIfInBounds_toArray, List.set_cons_zero, List.set_cons_succ, List.getElem_toArray, List.getElem_cons_succ, List.getElem_cons_zero]
      refine wpAnyH_take (i := 6) (oi := _) (v := ?_) rfl (by kernel_rfl) (by kernel_rfl) (by kernel_rfl) (fun _ _ _ h => h) (Or.inl ⟨by rfl, ?_⟩) (by assumption) ?_
      rotate_left
      · intro w hSw; (try dsimp only at hSw); go_simp; try with_reducible rfl
      try simp only [Act.put, List.setIfInBounds_toArray, List.set_cons_zero, List.set_cons_succ, List.getElem_toArray, List.getElem_cons_succ, List.getElem_cons_zero]
      refine wpAnyH_take (i := 7) (oi := _) (v := ?_) rfl (by kernel_rfl) (by kernel_rfl) (by kernel_rfl) (fun _ _ _ h => h) (Or.inl ⟨by rfl, ?_⟩) (by assumption) ?_
      rotate_left
      · intro w hSw; (try dsimp only at hSw); go_simp; try with_reducible rfl
      try simp only [Act.put, List.setIfInBounds_toArray, List.set_cons_zero, List.set_cons_succ, List.getElem_toArray, List.getElem_cons_succ, List.getElem_cons_zero]
      refine wpAnyH_take (i := 8) (oi := _) (v := ?_) rfl (by kernel_rfl) (by kernel_rfl) (by kernel_rfl) (fun _ _ _ h => h) (Or.inl ⟨by rfl, ?_⟩) (by assumption) ?_
      rotate_left
      · intro w hSw; (try dsimp only at hSw); go_simp; try with_reducible rfl
      try simp only [Act.put, List.setIfInBounds_toArray, List.set_cons_zero, List.set_cons_succ, List.getElem_toArray, List.getElem_cons_succ, List.getElem_cons_zero]
      refine wpAnyH_done (by kernel_rfl) ?_ _
      clear KS
      go_wp2
      go_roundw
      case rel => exact ⟨k + 1, by go_num, by omega, D2⟩
      case measure => simp [intOf]; omega
    · have g1' : ¬ (k : Int) < (n : Int) := by omega
      go_wp2
      go_ret
      exact ⟨rfl, H2.out⟩

set_option maxRecDepth 100000 in
set_option maxHeartbeats 2000000 in
/-- laws.lwLists, of the same lists twice. -/
theorem lwl_any (sl sl' : Option Addr) (cap cap' : Nat) (cs ds : List LCl) (w : World) (hn : cs.length ≤ 1048576) (he : bareC cs = bareC ds) (hz : Cls w sl cs) (hz' : Cls w sl' ds) :
    Calls Tryd.prog 22 #[.slice sl cs.length cap, .slice sl' ds.length cap'] w fun e w' => e = .returned (.bool true) ∧ Below w.heap.size w w' := by
  rw [← bareC_len he]
  have HZ := Lib.hid hz
  have HZ' := Lib.hid hz'
  have HE := Lib.hid he
  have hl2 := Lib.hid (bareC_len he)
  clear hz hz' he
  generalize hN : cs.length = n at *
  have HN := Lib.hid hN
  clear hN
  go_enter Tryd.func22, Tryd.ntmps22
  go_wp2
  go_loopw [5] (fun i wr => ∃ k : Nat, i = .int .i64 k ∧ k ≤ n ∧ Hid (Below w.heap.size w wr)) (fun i _ => n - (intOf i).toNat)
  case atStart => exact ⟨0, rfl, Nat.zero_le _, Below.refl _ _⟩
  case round =>
    obtain ⟨k, rfl, hk, H2⟩ := hrel
    have hk0 : (0 : Int) ≤ (k : Int) := by omega
    by_cases g1 : k < n
    · have g1' : (k : Int) < (n : Int) := by omega
      have hlt : k < cs.length := by rw [HN.out]; exact g1
      have hlt' : k < ds.length := by rw [← hl2.out]; exact g1
      have D2 := Lib.hid H2.out.drew
      have Z1 := HZ.out.below D2.out
      have Z1' := HZ'.out.below D2.out
      obtain ⟨c, o, rfl, Z0⟩ := Z1.at hlt
      obtain ⟨c', o', rfl, Z0'⟩ := Z1'.at hlt'
      obtain ⟨ra, ka, ea, ia, la⟩ := Z1.each _ (List.getElem_mem hlt)
      obtain ⟨rb, kb, eb, ib, lb⟩ := Z1'.each _ (List.getElem_mem hlt')
      have e2 : cs[k].2 = ds[k].2 := by
        have := congrArg (fun l : List (List Int) => l[k]?) HE.out
        simpa [bareC, hlt, hlt'] using this
      have q := Z0.2 k hlt
      have q' := Z0'.2 k hlt'
      rw [ea] at q
      rw [eb, ← e2] at q'
      rw [← e2] at ib
      have cl := Z0.1
      have cl' := Z0'.1
      have KS : Hid (∀ W, Below wr.drew.heap.size wr.drew W → (c < W.heap.size ∧ W.cell? ⟨c, o + k, none⟩ = some (.slice ra cs[k].2.length ka)) ∧ c' < W.heap.size ∧ W.cell? ⟨c', o' + k, none⟩ = some (.slice rb cs[k].2.length kb)) := fun W hW =>
        ⟨⟨Nat.lt_of_lt_of_le cl hW.size, (hW.cell (p := ⟨c, o + k, none⟩) cl).trans q⟩, Nat.lt_of_lt_of_le cl' hW.size, (hW.cell (p := ⟨c', o' + k, none⟩) cl').trans q'⟩
      have CS := Lib.hid (lws_any ra rb ka kb cs[k].2 wr.drew la ia ib)
      clear Z0 Z0' Z1 Z1' ea eb ia ib la lb e2 q q' cl cl'
      generalize cs[k].2.length = u at *
      have K0 := Lib.hid (KS.out _ (Below.refl _ _))
      clear hlt hlt'
      go_wp2_with fail
      refine wp_region_held_drew (S := fun W => (c < W.heap.size ∧ W.cell? ⟨c, o + k, none⟩ = some (.slice ra u ka)) ∧ c' < W.heap.size ∧ W.cell? ⟨c', o' + k, none⟩ = some (.slice rb u kb)) (by kernel_rfl) ?_ (fun hHeld => ?_)
      · exact K0.out
      refine wpAnyH_take (i := 0) (oi := _) (v := ?_) rfl (by kernel_rfl) (by kernel_rfl) (by kernel_rfl) (fun _ _ _ h => h) (Or.inl ⟨by rfl, ?_⟩) (by assumption) ?_
      rotate_left
      · intro w hSw; (try dsimp only at hSw); go_simp; try with_reducible rfl
      try simp only [Act.put, List.setIfInBounds_toArray, List.set_cons_zero, List.set_cons_succ, List.getElem_toArray, List.getElem_cons_zero]
      refine wpAnyH_take (i := 1) (oi := _) (v := ?_) rfl (by kernel_rfl) (by kernel_rfl) (by kernel_rfl) (fun _ _ _ h => h) (Or.inl ⟨by rfl, ?_⟩) (by assumption) ?_
      rotate_left
      · intro w hSw; (try dsimp only at hSw); go_simp; try with_reducible rfl
      try simp only [Act.put, List.setIfInBounds_toArray, List.set_cons_zero, List.set_cons_succ, List.getElem_toArray, List.getElem_cons_succ, List.getElem_cons_zero]
      refine wpAnyH_take (i := 2) (oi := _) (v := ?_) rfl (by kernel_rfl) (by kernel_rfl) (by kernel_rfl) (fun _ _ _ h => h) (Or.inl ⟨by rfl, ?_⟩) (by assumption) ?_
      rotate_left
      · intro w hSw; (try dsimp only at hSw); go_simp; try with_reducible rfl
      try simp only [Act.put, List.setIfInBounds_toArray, List.set_cons_zero, List.set_cons_succ, List.getElem_toArray, List.getElem_cons_succ, List.getElem_cons_zero]
      refine wpAnyH_take (i := 3) (oi := _) (v := ?_) rfl (by kernel_rfl) (by kernel_rfl) (by kernel_rfl) (fun _ _ _ h => h) (Or.inl ⟨by rfl, ?_⟩) (by assumption) ?_
      rotate_left
      · intro w hSw; (try dsimp only at hSw); go_simp; try with_reducible rfl
      try simp only [Act.put, List.setIfInBounds_toArray, List.set_cons_zero, List.set_cons_succ, List.getElem_toArray, List.getElem_cons_succ, List.getElem_cons_zero]
      refine wpAnyH_take (i := 4) (oi := _) (v := ?_) rfl (by kernel_rfl) (by kernel_rfl) (by kernel_rfl) (fun _ _ _ h => h) (Or.inl ⟨by rfl, ?_⟩) (by assumption) ?_
      rotate_left
      · intro w hSw; (try dsimp only at hSw); go_simp; try with_reducible rfl
      try simp only [Act.put, List.setIfInBounds_toArray, List.set_cons_zero, List.set_cons_succ, List.getElem_toArray, List.getElem_cons_succ, List.getElem_cons_zero]
      refine wpAnyH_take (i := 5) (oi := _) (v := ?_) rfl (by kernel_rfl) (by kernel_rfl) (by kernel_rfl) (fun _ _ _ h => h) (Or.inl ⟨by rfl, ?_⟩) (by assumption) ?_
      rotate_left
      · intro w hSw; (try dsimp only at hSw); go_simp; try with_reducible rfl
      try simp only [Act.put, List.setIfInBounds_toArray, List.set_cons_zero, List.set_cons_succ, List.getElem_toArray, List.getElem_cons_succ, List.getElem_cons_zero]
      refine wpAnyH_take (i := 6) (oi := _) (v := ?_) rfl (by kernel_rfl) (by kernel_rfl) (by kernel_rfl) (fun _ _ _ h => h) (Or.inl ⟨by rfl, ?_⟩) (by assumption) ?_
      rotate_left
      · intro w hSw; (try dsimp only at hSw); go_simp; try with_reducible rfl
      try simp only [Act.put, List.setIfInBounds_toArray, List.set_cons_zero, List.set_cons_succ, List.getElem_toArray, List.getElem_cons_succ, List.getElem_cons_zero]
      refine wpAnyH_take (i := 7) (oi := _) (v := ?_) rfl (by kernel_rfl) (by kernel_rfl) (by kernel_rfl) (fun _ _ _ h => h) (Or.inl ⟨by rfl, ?_⟩) (by assumption) ?_
      rotate_left
      · intro w hSw; (try dsimp only at hSw); go_simp; try with_reducible rfl
      try simp only [Act.put, List.setIfInBounds_toArray, List.set_cons_zero, List.set_cons_succ, List.getElem_toArray, List.getElem_cons_succ, List.getElem_cons_zero]
      refine wpAnyH_ready (rs := [8]) (by kernel_rfl) (by simp) ?_
      refine AllReadyH.cons rfl (fun K hK => ?_) AllReadyH.nil
      go_simp
      go_wp2_with (go_at_call 13; refine CS.out.mono ?_; rintro e w9 ⟨rfl, b9'⟩)
      have b9 := Lib.hid b9'
      clear b9' CS
      refine hK.out _ _ ?_ (fun hHeld => ?_)
      · exact KS.out _ b9.out
      clear hK K
      refine wpAnyH_take (i := 9) (oi := _) (v := ?_) rfl (by kernel_rfl) (by kernel_rfl) (by kernel_rfl) (fun _ _ _ h => h) (Or.inl ⟨by rfl, ?_⟩) (by assumption) ?_
      rotate_left
      · intro w hSw; (try dsimp only at hSw); go_simp; try with_reducible rfl
      try simp only [Act.put, List.setIfInBounds_toArray, List.set_cons_zero, List.set_cons_succ, List.getElem_toArray, List.getElem_cons_succ, List.getElem_cons_zero]
      refine wpAnyH_done (by kernel_rfl) ?_ _
      have F9 : Hid (Below w.heap.size w w9) := bT D2.out b9.out
      clear KS K0 b9
      go_wp2
      go_roundw
      case rel => exact ⟨k + 1, by go_num, by omega, F9⟩
      case measure => simp [intOf]; omega
    · have g1' : ¬ (k : Int) < (n : Int) := by omega
      go_wp2
      go_ret
      exact ⟨rfl, H2.out⟩


theorem Only.drewN {b : Nat} {u v : World} (h : Only b u v) (n : Nat) : Only b u (v.drewN n) := ⟨h.os, h.tape, h.output, h.size, h.block⟩


section
variable {B b : Nat} {s : Option Addr} {tn k : Nat} {l : Option Addr} {ln j : Nat} {x st c : Int} {xs : List Value} {ms : List LCl} {W W' : World}
end
end Go.Proofs.YtoobcodlgajieaaDoor
