/-
  THE FIRST CLAUSE THAT IS NOT TRUE: impl.CnfFault, impl.CnfTrue.
  THE CLAUSES OF A TABLE ARE TRUE OF A RIGHT PLAN, as lists.
  HOW MANY CLAUSES a table has, and how long they are; tables that differ in their slices only.
  THE CLAUSES OF A TABLE ARE RIGHT, as lists: how many, how long, of which literals.
  A RIGHT PLAN, ITS TRUES AND BACK, as lists.
  PLACES COPIED AND COMPARED: lwPlaces, lwPlan.
  NUMBERS COPIED AND COMPARED, AND LISTS OF THEM: lwCopy, lwSame, lwLists.
-/
import Derived.Test.YtdmfljejlhlbnaaJat
import Derived.Test.YtdmfljejlhlbnaaJaq
import Derived.Test.YtdmfljejlhlbnaaJam
import Derived.Test.YtdmfljejlhlbnaaJak
import Derived.Test.YtdmfljejlhlbnaaJaj
import Derived.Test.YtdmfljejlhlbnaaJao
import Derived.Test.YtdmfljejlhlbnaaJap
namespace Go.Proofs.Ytdmfljejlhlbnaa
open Go.RowKit
set_option linter.unusedVariables false

/-- The first k clauses are true. -/
def TrTo (ts : List Int) (zss : List (List Int)) (k : Nat) : Prop := ∀ i, i < k → ClT ts (zss.getD i [])
theorem TrTo.zero (ts : List Int) (zss : List (List Int)) : TrTo ts zss 0 := fun i h => absurd h (Nat.not_lt_zero _)
theorem TrTo.step {ts : List Int} {zss : List (List Int)} {k : Nat} (h : TrTo ts zss k) (g : ClT ts (zss.getD k [])) : TrTo ts zss (k + 1) := fun i hi => by
  by_cases e : i = k
  · subst e; exact g
  · exact h i (by omega)
def FstNo (ts : List Int) (zss : List (List Int)) (k : Nat) : Prop := k < zss.length ∧ TrTo ts zss k ∧ ¬ ClT ts (zss.getD k [])
open Classical in
/-- The place of the first clause that is not true; -1 if all are. -/
noncomputable def fF (ts : List Int) (zss : List (List Int)) : Int := if h : ∃ k, FstNo ts zss k then (Classical.choose h : Nat) else -1
theorem fF_at {ts : List Int} {zss : List (List Int)} {k : Nat} (h : FstNo ts zss k) : fF ts zss = k := by
  have hex : ∃ k, FstNo ts zss k := ⟨k, h⟩
  unfold fF
  rw [dif_pos hex]
  have hs := Classical.choose_spec hex
  generalize Classical.choose hex = j at *
  have : ¬ j < k := fun g => hs.2.2 (h.2.1 j g)
  have : ¬ k < j := fun g => h.2.2 (hs.2.1 k g)
  omega
theorem fF_all {ts : List Int} {zss : List (List Int)} {k : Nat} (hk : zss.length ≤ k) (h : TrTo ts zss k) : fF ts zss = -1 := by
  unfold fF
  rw [dif_neg]
  rintro ⟨j, g⟩
  exact g.2.2 (h j (by have := g.1; omega))
open Classical in
/-- What CnfFault answers. -/
noncomputable def fC (vars : Int) (zss : List (List Int)) (ts : List Int) : Int := if 400 < ts.length then 0 else if CnfR vars zss ∧ InRise 1 vars ts then fF ts zss else -2
theorem fC_long {vars : Int} {zss : List (List Int)} {ts : List Int} (h : 400 < ts.length) : fC vars zss ts = 0 := by unfold fC; rw [if_pos h]
theorem fC_no {vars : Int} {zss : List (List Int)} {ts : List Int} (h : ¬ 400 < ts.length) (g : ¬ (CnfR vars zss ∧ InRise 1 vars ts)) : fC vars zss ts = -2 := by unfold fC; rw [if_neg h, if_neg g]
theorem fC_yes {vars : Int} {zss : List (List Int)} {ts : List Int} (h : ¬ 400 < ts.length) (g : CnfR vars zss ∧ InRise 1 vars ts) : fC vars zss ts = fF ts zss := by unfold fC; rw [if_neg h, if_pos g]

set_option maxRecDepth 100000 in
set_option maxHeartbeats 4000000 in
/-- impl.CnfFault. -/
theorem icf_any (vars : Int) (sl : Option Addr) (cap : Nat) (cs : List LCl) (sl2 : Option Addr) (cap2 : Nat) (ts : List Int) (w : World) (hn : cs.length ≤ maxLen) (hm : ts.length ≤ maxLen) (hz : Cls w sl cs) (ht : Ints w sl2 ts) :
    Calls Try.prog 31 #[CV vars sl cs.length cap, .slice sl2 ts.length cap2] w fun e w' => e = .returned (.int .i64 (fC vars (bareC cs) ts)) ∧ Below w.heap.size w w' := by
  have CA := Lib.hid (CnfAt.new w vars sl cs.length cap)
  have B0 := Lib.hid (bA0 w (.cells #[.int .i64 vars, .slice sl cs.length cap] 45))
  have HB := Lib.hid (bareC_length cs)
  by_cases c1 : 400 < ts.length
  · rw [fC_long c1]
    have c1' : (400 : Int) < (ts.length : Int) := by omega
    clear hz ht HB
    unfold maxLen at hm
    generalize cs.length = n at *
    generalize ts.length = m at *
    go_enter Try.func31, Try.ntmps31
    go_wp2
    go_ret
    exact ⟨rfl, B0.out⟩
  have c1' : ¬ (400 : Int) < (ts.length : Int) := by omega
  have E1 : Hid (∀ W, Below w.heap.size w W → Calls Try.prog 27 #[CV vars sl cs.length cap] W fun e w' => e = .returned (.bool (B (CnfR vars (bareC cs)))) ∧ Below W.heap.size W w') := fun W hW => icr_any vars sl cap cs W hn (hz.below hW)
  have E2 : Hid (∀ W, Below w.heap.size w W → Calls Try.prog 92 #[.slice sl2 ts.length cap2, .int .i64 1, .int .i64 vars] W fun e w' => e = .returned (.bool (B (InRise 1 vars ts))) ∧ Below W.heap.size W w') := fun W hW => rw_any 1 vars sl2 cap2 ts W hm (ht.below hW)
  unfold maxLen at hm hn
  cases hb : B (CnfR vars (bareC cs)) with
  | false =>
    rw [fC_no c1 (fun g => B_false hb g.1)]
    rw [hb] at E1
    clear hb hz ht HB E2
    generalize cs.length = n at *
    generalize ts.length = m at *
    go_enter Try.func31, Try.ntmps31
    go_wp2_with fail
    refine (E1.out _ B0.out).mono ?_
    rintro e w1 ⟨rfl, b1⟩
    have D1 := Lib.hid (bT B0.out b1)
    clear b1 E1
    go_wp2
    go_ret
    exact ⟨rfl, D1.out⟩
  | true =>
    rw [hb] at E1
    cases hc : B (InRise 1 vars ts) with
    | false =>
      rw [fC_no c1 (fun g => B_false hc g.2)]
      rw [hc] at E2
      clear hb hc hz ht HB
      generalize cs.length = n at *
      generalize ts.length = m at *
      go_enter Try.func31, Try.ntmps31
      go_wp2_with fail
      refine (E1.out _ B0.out).mono ?_
      rintro e w1 ⟨rfl, b1⟩
      have D1 := Lib.hid (bT B0.out b1)
      have TA := CA.out.below b1
      obtain ⟨t0, t1⟩ := TA.cells
      have tl := TA.lt
      clear b1 E1 TA
      go_wp2_with fail
      refine (E2.out _ D1.out).mono ?_
      rintro e w2 ⟨rfl, b2⟩
      have D2 := Lib.hid (bT D1.out b2)
      clear b2 E2
      go_wp2
      go_ret
      exact ⟨rfl, D2.out⟩
    | true =>
      rw [hc] at E2
      have CR := Lib.hid (B_true hb)
      have FV := Lib.hid (fC_yes c1 ⟨B_true hb, B_true hc⟩)
      have YY := Lib.hid (show ∀ k, cs.length ≤ k → TrTo ts (bareC cs) k → fC vars (bareC cs) ts = -1 from fun k hk h => FV.out.trans (fF_all (by rw [HB.out]; exact hk) h))
      have NN := Lib.hid (show ∀ k, k < cs.length → TrTo ts (bareC cs) k → ¬ ClT ts ((bareC cs).getD k []) → fC vars (bareC cs) ts = k from fun k hk h g => FV.out.trans (fF_at ⟨by rw [HB.out]; exact hk, h, g⟩))
      have HZ := Lib.hid hz
      have HT := Lib.hid ht
      have HM := Lib.hid (show ts.length ≤ 1048576 by omega)
      have HC := Lib.hid (show ∀ r ∈ cs, r.2.length ≤ 1048576 from fun r hr => by
        obtain ⟨k, h, rfl⟩ := List.getElem_of_mem hr
        have := (CR.out.2.2 k (by rw [HB.out]; exact h)).1
        rw [bareC_get h] at this
        omega)
      clear hz ht HB hb hc FV CR
      generalize hN : cs.length = n at *
      have HN := Lib.hid hN
      clear hN
      have EK : Hid (∀ r ∈ cs, ∀ s1 k1 W, Below w.heap.size w W → Ints W s1 r.2 → Calls Try.prog 93 #[.slice s1 r.2.length k1, .slice sl2 ts.length cap2] W fun e w' => e = .returned (.bool (B (ClT ts r.2))) ∧ Below W.heap.size W w') := fun r h s1 k1 W hW i => clt_any s1 k1 r.2 sl2 cap2 ts W (HC.out r h) HM.out i (HT.out.below hW)
      clear HT HM HC
      generalize ts.length = m at *
      go_enter Try.func31, Try.ntmps31
      go_wp2_with fail
      refine (E1.out _ B0.out).mono ?_
      rintro e w1 ⟨rfl, b1⟩
      have D1 := Lib.hid (bT B0.out b1)
      have TA := CA.out.below b1
      obtain ⟨t0, t1⟩ := TA.cells
      have tl := TA.lt
      have CA1 := Lib.hid TA
      clear b1 E1 TA CA
      go_wp2_with fail
      refine (E2.out _ D1.out).mono ?_
      rintro e w2 ⟨rfl, b2⟩
      have D2 := Lib.hid (bT D1.out b2)
      have TA := CA1.out.below b2
      clear t0 t1 tl
      obtain ⟨t0, t1⟩ := TA.cells
      have tl := TA.lt
      have CA2 := Lib.hid TA
      clear b2 E2 TA CA1 D1
      go_wp2
      clear t0 t1 tl
      go_loopw [23] (fun i wr => ∃ k : Nat, i = .int .i64 k ∧ k ≤ n ∧ Hid (TrTo ts (bareC cs) k) ∧ Hid (Below w2.heap.size w2 wr)) (fun i _ => n - (intOf i).toNat)
      case atStart => exact ⟨0, rfl, Nat.zero_le _, TrTo.zero _ _, Below.refl _ _⟩
      case round =>
        obtain ⟨k, rfl, hk, IT, H2⟩ := hrel
        have hk0 : (0 : Int) ≤ (k : Int) := by omega
        have DW := Lib.hid (bT D2.out H2.out)
        by_cases g1 : k < n
        · have g1' : (k : Int) < (n : Int) := by omega
          have hlt : k < cs.length := by rw [HN.out]; exact g1
          obtain ⟨c, o, rfl, Z0⟩ := HZ.out.at hlt
          have hc := (Z0.below DW.out).2 k hlt
          obtain ⟨s1, k1, v1, i1, l1⟩ := (HZ.out.each cs[k] (List.getElem_mem hlt)).below DW.out
          rw [v1] at hc
          have E := Lib.hid (EK.out cs[k] (List.getElem_mem hlt) s1 k1 wr DW.out i1)
          have BG := Lib.hid (bareC_get hlt)
          cases hb : B (ClT ts cs[k].2) with
          | true =>
            rw [hb] at E
            have IT2 := Lib.hid (IT.out.step (by rw [BG.out]; exact B_true hb))
            clear hb IT i1 l1 Z0 v1 BG
            generalize cs[k].2.length = q at *
            clear hlt EK
            go_wp2_with fail
            refine E.out.mono ?_
            rintro e w5 ⟨rfl, b5⟩
            have D5 := Lib.hid (bT H2.out b5)
            clear b5 E
            go_wp2
            go_roundw
            case rel => exact ⟨k + 1, by go_num, by omega, IT2, D5⟩
            case measure => simp [intOf]; omega
          | false =>
            rw [hb] at E
            have NO := Lib.hid (NN.out k g1 IT.out (by rw [BG.out]; exact B_false hb))
            clear hb IT i1 l1 Z0 v1 BG
            generalize cs[k].2.length = q at *
            clear hlt EK
            go_wp2_with fail
            refine E.out.mono ?_
            rintro e w5 ⟨rfl, b5⟩
            have D5 := Lib.hid (bT DW.out b5)
            clear b5 E
            go_wp2
            go_ret
            exact ⟨by rw [NO.out]; rfl, D5.out⟩
        · have g1' : ¬ (k : Int) < (n : Int) := by omega
          have YES := Lib.hid (YY.out k (by omega) IT.out)
          clear IT EK
          go_wp2
          go_ret
          exact ⟨by rw [YES.out]; rfl, DW.out⟩

set_option maxRecDepth 100000 in
set_option maxHeartbeats 1000000 in
/-- impl.CnfTrue. -/
theorem ict_any (vars : Int) (sl : Option Addr) (cap : Nat) (cs : List LCl) (sl2 : Option Addr) (cap2 : Nat) (ts : List Int) (w : World) (hn : cs.length ≤ maxLen) (hm : ts.length ≤ maxLen) (hz : Cls w sl cs) (ht : Ints w sl2 ts) :
    Calls Try.prog 30 #[CV vars sl cs.length cap, .slice sl2 ts.length cap2] w fun e w' => e = .returned (.bool (fC vars (bareC cs) ts == -1)) ∧ Below w.heap.size w w' := by
  have B0 := Lib.hid (bA0 w (.cells #[.int .i64 vars, .slice sl cs.length cap] 45))
  have E1 := Lib.hid (icf_any vars sl cap cs sl2 cap2 ts _ hn hm (hz.below B0.out) (ht.below B0.out))
  clear hz ht hn hm
  generalize fC vars (bareC cs) ts = f at *
  generalize cs.length = n at *
  generalize ts.length = m at *
  go_enter Try.func30, Try.ntmps30
  go_wp2_with fail
  refine E1.out.mono ?_
  rintro e w1 ⟨rfl, b1⟩
  have D1 := Lib.hid (bT B0.out b1)
  clear b1 E1
  go_wp2
  go_ret
  exact ⟨rfl, D1.out⟩

end Go.Proofs.Ytdmfljejlhlbnaa
namespace Go.Proofs.Ytdmfljejlhlbnaa
open Go.RowKit
set_option linter.unusedVariables false

theorem lv_pos {z : Int} (h : 0 < z) (h2 : z ≤ 100000) : lv z = z := by
  unfold lv wrap64
  rw [Int.max_def]; split <;> omega
theorem lv_neg {z : Int} (h : 0 < z) (h2 : z ≤ 100000) : lv (-z) = z := by
  unfold lv wrap64
  rw [Int.max_def]; split <;> omega
theorem nb_mem {V : List LPl} {e : LNb} (h : e ∈ nbF 0 V) : ∃ m, ∃ hm : m < V.length, e = (V[m], (m : Int) + 1) := by
  obtain ⟨m, hm, rfl⟩ := List.getElem_of_mem h
  rw [nbF_len] at hm
  refine ⟨m, hm, ?_⟩
  rw [nbF_at V 0 m hm]
  simp
theorem nb_in {V : List LPl} (m : Nat) (hm : m < V.length) : (V[m], (m : Int) + 1) ∈ nbF 0 V := by
  have := List.getElem_mem (l := nbF 0 V) (n := m) (by rw [nbF_len]; exact hm)
  rw [nbF_at V 0 m hm] at this
  simpa using this
theorem nb_up (V : List LPl) : (nbF 0 V).Pairwise (fun x y => x.2 < y.2) := by
  rw [List.pairwise_iff_getElem]
  intro i j hi hj hij
  rw [nbF_len] at hi hj
  rw [nbF_at V 0 i hi, nbF_at V 0 j hj]
  show (0 : Int) + i + 1 < 0 + j + 1
  omega
theorem tr_mem (pl V : List LPl) (v : Int) : v ∈ trK pl V V.length ↔ ∃ m, ∃ hm : m < V.length, v = (m : Int) + 1 ∧ V[m] ∈ pl := by
  unfold trK
  rw [List.mem_map]
  constructor
  · rintro ⟨m, hm, rfl⟩
    rw [List.mem_filter, List.mem_range] at hm
    have := B_true hm.2
    refine ⟨m, hm.1, rfl, ?_⟩
    simpa [hm.1] using this
  · rintro ⟨m, hm, rfl, h⟩
    refine ⟨m, ?_, rfl⟩
    rw [List.mem_filter, List.mem_range]
    exact ⟨hm, B_yes (by simpa [hm] using h)⟩
theorem twoS_mem : ∀ (l : List LNb), l.Pairwise (fun x y => x.2 < y.2) → ∀ zs ∈ twoS l, ∃ x ∈ l, ∃ y ∈ l, x.2 < y.2 ∧ x.1.1 = y.1.1 ∧ zs = [-x.2, -y.2]
  | [], _, zs, h => by simp [twoS] at h
  | x :: r, hp, zs, h => by
    rw [List.pairwise_cons] at hp
    unfold twoS at h
    rcases List.mem_append.1 h with h | h
    · obtain ⟨y, hy, rfl⟩ := List.mem_map.1 h
      unfold ofId at hy
      rw [List.mem_filter] at hy
      have e : y.1.1 = x.1.1 := by simpa using hy.2
      exact ⟨x, by simp, y, by simp [hy.1], hp.1 y hy.1, e.symm, rfl⟩
    · obtain ⟨a, ha, b, hb, h1⟩ := twoS_mem r hp.2 zs h
      exact ⟨a, by simp [ha], b, by simp [hb], h1⟩
theorem rise_ne {lo hi : Int} {zs : List Int} (h : InRise lo hi zs) : zs.Pairwise (· ≠ ·) := by
  rw [List.pairwise_iff_getElem]
  intro i j hi' hj hij
  have := rise_lt zs lo hi h i j hij hj
  simp [hi', hj] at this
  intro e
  rw [e] at this
  omega
theorem dom_ne (rs : List LSt) (ps : List LPr) (id top : Int) (h : TabR rs ps) : (rs.flatMap (domF id top)).Pairwise (· ≠ ·) := by
  by_cases hm : id ∈ idsL rs
  · obtain ⟨k, hk, ep, hid⟩ := pos_at rs id hm
    have hu : ∀ i (h : i < rs.length), i ≠ k → rs[i].1 ≠ id := fun i hi hne e => by
      have r := rise_ne h.2.2.1
      rw [List.pairwise_iff_getElem] at r
      rcases Nat.lt_or_gt_of_ne hne with g | g
      · exact r i k (by simpa [idsL] using hi) (by simpa [idsL] using hk) g (by rw [idsL_at rs i _ hi, idsL_at rs k _ hk, e, hid])
      · exact r k i (by simpa [idsL] using hk) (by simpa [idsL] using hi) g (by rw [idsL_at rs i _ hi, idsL_at rs k _ hk, e, hid])
    rw [flat_one id top rs k hk hid hu]
    exact (rise_ne (h.2.1 _ (List.getElem_mem hk)).2.2).filter _
  · rw [flat_none id top rs hm]; exact List.Pairwise.nil
theorem plF_ne {rs : List LSt} {ps : List LPr} (top : Int) (ids : List Int) (h : TabR rs ps) (hi : ids.Pairwise (· < ·)) : (plF rs top ids).Pairwise (· ≠ ·) := by
  unfold plF
  rw [List.pairwise_flatMap]
  refine ⟨fun id _ => ?_, hi.imp (fun {a b} hab x hx y hy e => ?_)⟩
  · unfold chF
    rw [List.pairwise_map]
    exact (dom_ne rs ps id top h).imp (fun {a b} hab e => hab (by injection e))
  · unfold chF at hx hy
    obtain ⟨c, _, rfl⟩ := List.mem_map.1 hx
    obtain ⟨d, _, rfl⟩ := List.mem_map.1 hy
    injection e with e1 e2
    omega
theorem one_id {rs : List LSt} {ps : List LPr} {pl : List LPl} (h : IdsR rs ps (pidsL pl)) {p q : LPl} (hp : p ∈ pl) (hq : q ∈ pl) (e : p.1 = q.1) : p = q := by
  have hd := ids_pair h
  unfold pidsL at hd
  rw [List.pairwise_map, List.pairwise_iff_getElem] at hd
  obtain ⟨i, hi, rfl⟩ := List.getElem_of_mem hp
  obtain ⟨j, hj, rfl⟩ := List.getElem_of_mem hq
  rcases Nat.lt_trichotomy i j with g | g | g
  · have := hd i j hi hj g; omega
  · subst g; rfl
  · have := hd j i hj hi g; omega
theorem may_both {rs : List LSt} {ps : List LPr} {top : Int} {pl : List LPl} (h : PlanOk rs ps top pl) {p q : LPl} (hp : p ∈ pl) (hq : q ∈ pl) (hne : p ≠ q) : mayL ps p.1 p.2 q.1 q.2 = true := by
  have hm := h.may
  rw [List.pairwise_iff_getElem] at hm
  obtain ⟨i, hi, rfl⟩ := List.getElem_of_mem hp
  obtain ⟨j, hj, rfl⟩ := List.getElem_of_mem hq
  rcases Nat.lt_trichotomy i j with g | g | g
  · exact hm i j hi hj g
  · subst g; exact absurd rfl hne
  · rw [may_sym rs ps h.ids.2.1]; exact hm j i hj hi g
/-- One of two is not in the plan: the clause of both is true. -/
theorem two_true {ts : List Int} {x y : Int} (hx : 0 < x ∧ x ≤ 100000) (hy : 0 < y ∧ y ≤ 100000) (h : ¬ (x ∈ ts ∧ y ∈ ts)) : ClT ts [-x, -y] := by
  by_cases h1 : x ∈ ts
  · exact ⟨-y, by simp, by rw [lv_neg hy.1 hy.2]; exact ⟨fun g => absurd ⟨h1, g⟩ h, fun g => by omega⟩⟩
  · exact ⟨-x, by simp, by rw [lv_neg hx.1 hx.2]; exact ⟨fun g => absurd g h1, fun g => by omega⟩⟩
/-- Every clause of a table is true of a right plan. -/
theorem plan_true {rs : List LSt} {ps : List LPr} {top : Int} {pl : List LPl} (h : PlanOk rs ps top pl) : ∀ zs ∈ cnA rs ps top (pidsL pl), ClT (trK pl (plF rs top (pidsL pl)) (plF rs top (pidsL pl)).length) zs := by
  have hV : (plF rs top (pidsL pl)).length ≤ 1152 := by
    have := plF_le top (pidsL pl) h.ids.2.1
    have := ids_few h.ids
    omega
  have hne := plF_ne top (pidsL pl) h.ids.2.1 (ids_pair h.ids)
  have hin : ∀ p ∈ pl, p ∈ plF rs top (pidsL pl) := fun p hp => by
    unfold plF chF
    rw [List.mem_flatMap]
    exact ⟨p.1, List.mem_map.2 ⟨p, hp, rfl⟩, List.mem_map.2 ⟨p.2, h.dom p hp, rfl⟩⟩
  intro zs hz
  rw [cnA_spec top h.ids] at hz
  generalize plF rs top (pidsL pl) = V at *
  rw [List.pairwise_iff_getElem] at hne
  rcases List.mem_append.1 hz with hz | hz
  · obtain ⟨id, hid, rfl⟩ := List.mem_map.1 hz
    obtain ⟨p, hp, rfl⟩ := List.mem_map.1 hid
    obtain ⟨m, hm, e⟩ := List.getElem_of_mem (hin p hp)
    refine ⟨(m : Int) + 1, ?_, ?_⟩
    · unfold ownA ofId
      rw [List.mem_map]
      exact ⟨(V[m], (m : Int) + 1), List.mem_filter.2 ⟨nb_in m hm, by simp [e]⟩, rfl⟩
    · rw [lv_pos (by omega) (by omega)]
      exact ⟨fun _ => by omega, fun _ => (tr_mem pl V _).2 ⟨m, hm, rfl, by rw [e]; exact hp⟩⟩
  rcases List.mem_append.1 hz with hz | hz
  · obtain ⟨x, hx, y, hy, hxy, hid, rfl⟩ := twoS_mem _ (nb_up V) zs hz
    obtain ⟨a, ha, rfl⟩ := nb_mem hx
    obtain ⟨b, hb, rfl⟩ := nb_mem hy
    dsimp only at hxy hid ⊢
    refine two_true ⟨by omega, by omega⟩ ⟨by omega, by omega⟩ (fun ⟨g1, g2⟩ => ?_)
    obtain ⟨a', ha', e1, p1⟩ := (tr_mem pl V _).1 g1
    obtain ⟨b', hb', e2, p2⟩ := (tr_mem pl V _).1 g2
    obtain rfl : a' = a := by omega
    obtain rfl : b' = b := by omega
    exact hne a' b' ha hb (by omega) (one_id h.ids p1 p2 hid)
  · obtain ⟨q, hq, hz⟩ := List.mem_flatMap.1 hz
    unfold besS at hz
    obtain ⟨x, hx, hz⟩ := List.mem_flatMap.1 hz
    obtain ⟨y, hy, hz⟩ := List.mem_flatMap.1 hz
    split at hz
    · rename_i hc
      obtain ⟨c1, c2, c3⟩ := hc
      rw [List.mem_singleton] at hz
      subst hz
      obtain ⟨a, ha, rfl⟩ := nb_mem hx
      obtain ⟨b, hb, rfl⟩ := nb_mem hy
      dsimp only at c1 c2 c3 ⊢
      refine two_true ⟨by omega, by omega⟩ ⟨by omega, by omega⟩ (fun ⟨g1, g2⟩ => ?_)
      obtain ⟨a', ha', e1, p1⟩ := (tr_mem pl V _).1 g1
      obtain ⟨b', hb', e2, p2⟩ := (tr_mem pl V _).1 g2
      obtain rfl : a' = a := by omega
      obtain rfl : b' = b := by omega
      have hlt : q.1 < q.2.1 := (h.ids.2.1.2.2.2.1 q hq).1
      have := may_both h p1 p2 (fun e => by rw [e] at c1; omega)
      rw [c1, c2] at this
      rw [this] at c3
      cases c3
    · simp at hz

end Go.Proofs.Ytdmfljejlhlbnaa
namespace Go.Proofs.Ytdmfljejlhlbnaa
open Go.RowKit
set_option linter.unusedVariables false

theorem fm_len {α β : Type} (f : α → List β) (m : Nat) : ∀ l : List α, (∀ x ∈ l, (f x).length ≤ m) → (l.flatMap f).length ≤ l.length * m := by
  intro l
  induction l with
  | nil => intro _; simp
  | cons x l ih =>
    intro h
    have h1 := h x (by simp)
    have h2 := ih (fun y hy => h y (by simp [hy]))
    rw [List.flatMap_cons, List.length_append, List.length_cons, Nat.add_mul]
    omega
end Go.Proofs.Ytdmfljejlhlbnaa
namespace Go.Proofs.Ytdmfljejlhlbnaa
open Go.RowKit
set_option linter.unusedVariables false

theorem dom_8 (rs : List LSt) (ps : List LPr) (id top : Int) (h : TabR rs ps) : (rs.flatMap (domF id top)).length ≤ 8 := by
  by_cases hm : id ∈ idsL rs
  · obtain ⟨k, hk, ep, hid⟩ := pos_at rs id hm
    have hu : ∀ i (h : i < rs.length), i ≠ k → rs[i].1 ≠ id := fun i hi hne e => by
      have r := rise_ne h.2.2.1
      rw [List.pairwise_iff_getElem] at r
      rcases Nat.lt_or_gt_of_ne hne with g | g
      · exact r i k (by simpa [idsL] using hi) (by simpa [idsL] using hk) g (by rw [idsL_at rs i _ hi, idsL_at rs k _ hk, e, hid])
      · exact r k i (by simpa [idsL] using hk) (by simpa [idsL] using hi) g (by rw [idsL_at rs i _ hi, idsL_at rs k _ hk, e, hid])
    rw [flat_one id top rs k hk hid hu]
    exact Nat.le_trans (List.length_filter_le _ _) (h.2.1 _ (List.getElem_mem hk)).2.1.2
  · rw [flat_none id top rs hm]; simp
theorem plF_96 {rs : List LSt} {ps : List LPr} (top : Int) (ids : List Int) (h : IdsR rs ps ids) : (plF rs top ids).length ≤ 96 := by
  have h1 : ∀ id ∈ ids, (chF rs top id).length ≤ 8 := fun id _ => by
    unfold chF; rw [List.length_map]; exact dom_8 rs ps id top h.2.1
  have := fm_len (chF rs top) 8 ids h1
  have := ids_few h
  unfold plF
  omega
theorem twoF_8 : ∀ zs : List Int, zs.length ≤ 8 → (twoF zs).length ≤ 8 * zs.length
  | [], _ => by simp [twoF]
  | x :: r, h => by
    simp only [List.length_cons] at h ⊢
    have := twoF_8 r (by omega)
    unfold twoF
    rw [List.length_append, List.length_map]
    omega
theorem besF_8 (ps : List LPr) (A C : List LNb) (ha : A.length ≤ 8) (hc : C.length ≤ 8) : (besF ps A C).length ≤ 64 := by
  have h1 : ∀ x ∈ A, (C.flatMap fun y => if mayL ps x.1.1 x.1.2 y.1.1 y.1.2 = true then [] else [[-x.2, -y.2]]).length ≤ 8 := fun x _ => by
    have := fm_len (fun y : LNb => if mayL ps x.1.1 x.1.2 y.1.1 y.1.2 = true then [] else [[-x.2, -y.2]]) 1 C (fun y _ => by split <;> simp)
    omega
  have := fm_len _ 8 A h1
  unfold besF
  omega
theorem nbs_8 (rs : List LSt) (ps : List LPr) (top : Int) (h : TabR rs ps) : ∀ (ids : List Int) (last : Int), ∀ b ∈ nbsF last (ids.map (chF rs top)), b.length ≤ 8 := by
  intro ids
  induction ids with
  | nil => intro last b hb; simp [nbsF] at hb
  | cons x r ih =>
    intro last b hb
    simp only [List.map_cons, nbsF, List.mem_cons] at hb
    rcases hb with rfl | hb
    · rw [nbF_len]; unfold chF; rw [List.length_map]; exact dom_8 rs ps x top h
    · exact ih _ b hb
theorem cnA_4000 {rs : List LSt} {ps : List LPr} (top : Int) {ids : List Int} (h : IdsR rs ps ids) : (cnA rs ps top ids).length ≤ 4000 := by
  unfold cnA
  rw [B_yes h, if_pos rfl]
  unfold cnfI
  have hb := nbs_8 rs ps top h.2.1 ids 0
  have hl : (nbsF 0 (ids.map (chF rs top))).length = ids.length := by rw [nbsF_len, List.length_map]
  generalize nbsF 0 (ids.map (chF rs top)) = bs at *
  have h12 := ids_few h
  have h40 := h.2.1.1.2.2
  have h1 := fm_len (fun b : List LNb => twoF (b.map fun e => e.2)) 64 bs (fun b hb' => by
    have := hb b hb'
    have := twoF_8 (b.map fun e => e.2) (by rw [List.length_map]; exact this)
    rw [List.length_map] at this
    omega)
  have hg : ∀ i, (bs.getD i []).length ≤ 8 := fun i => by
    by_cases hi : i < bs.length
    · simp only [List.getD_eq_getElem?_getD, List.getElem?_eq_getElem hi, Option.getD_some]; exact hb _ (List.getElem_mem hi)
    · simp [List.getD_eq_getElem?_getD, List.getElem?_eq_none (by omega : bs.length ≤ i)]
  have h2 := fm_len (besI ps ids bs) 64 ps (fun p _ => by
    unfold besI
    split
    · exact besF_8 ps _ _ (hg _) (hg _)
    · simp)
  simp only [List.length_append, List.length_map]
  omega
theorem good_two {vars x y : Int} (hx : 1 ≤ x ∧ x ≤ vars) (hy : 1 ≤ y ∧ y ≤ vars) (hv : vars ≤ 96) (hne : x ≠ y) : ClR vars [-x, -y] := by
  refine ⟨by simp, fun z hz => ?_, ?_⟩
  · simp only [List.mem_cons, List.not_mem_nil, or_false] at hz
    rcases hz with rfl | rfl
    · rw [lv_neg (by omega) (by omega)]; exact hx
    · rw [lv_neg (by omega) (by omega)]; exact hy
  · simp only [List.map_cons, List.map_nil]
    rw [lv_neg (by omega) (by omega), lv_neg (by omega) (by omega)]
    simp [hne]
/-- The clauses of a table are right. -/
theorem cnA_right {rs : List LSt} {ps : List LPr} (top : Int) {ids : List Int} (h : IdsR rs ps ids) : CnfR (cnN rs ps top ids : Nat) (cnA rs ps top ids) := by
  have hN : cnN rs ps top ids = (plF rs top ids).length := by unfold cnN; rw [B_yes h]; rfl
  have h96 := plF_96 top ids h
  have h4 := cnA_4000 top h
  have h8 : ∀ id, (ownA (plF rs top ids) id).length ≤ 96 := fun id => by
    unfold ownA ofId
    rw [List.length_map]
    exact Nat.le_trans (List.length_filter_le _ _) (by rw [nbF_len]; exact h96)
  have key : ∀ zs ∈ cnA rs ps top ids, ClR (cnN rs ps top ids : Nat) zs := by
    intro zs hz
    have hrow : ∀ b ∈ nbsF 0 (ids.map (chF rs top)), b.length ≤ 8 := nbs_8 rs ps top h.2.1 ids 0
    have hflat : (nbsF 0 (ids.map (chF rs top))).flatten = nbF 0 (plF rs top ids) := by rw [nbsF_flat]; rfl
    by_cases hown : zs ∈ (nbsF 0 (ids.map (chF rs top))).map (fun b => b.map fun e => e.2)
    · obtain ⟨b, hb, rfl⟩ := List.mem_map.1 hown
      have hsub : List.Sublist b (nbF 0 (plF rs top ids)) := by rw [← hflat]; exact List.sublist_flatten_of_mem hb
      have hup : (b.map fun e => e.2).Pairwise (· < ·) := by rw [List.pairwise_map]; exact (nb_up _).sublist hsub
      have hin : ∀ z ∈ (b.map fun e => e.2), 1 ≤ z ∧ z ≤ ((plF rs top ids).length : Int) := fun z hz => by
        obtain ⟨e, he, rfl⟩ := List.mem_map.1 hz
        obtain ⟨m, hm, rfl⟩ := nb_mem (hsub.subset he)
        exact ⟨by show (1 : Int) ≤ (m : Int) + 1; omega, by show (m : Int) + 1 ≤ _; omega⟩
      refine ⟨by rw [List.length_map]; have := hrow b hb; omega, fun z hz => ?_, ?_⟩
      · have := hin z hz
        rw [lv_pos (by omega) (by omega), hN]; exact this
      · have e : (b.map fun e => e.2).map lv = b.map fun e => e.2 := by
          rw [List.map_congr_left (g := id) (fun z hz => by have := hin z hz; rw [lv_pos (by omega) (by omega)]; rfl), List.map_id]
        rw [e]
        exact hup.imp (fun {a c} hab e => by omega)
    · have hz2 := hz
      unfold cnA at hz2
      rw [B_yes h, if_pos rfl] at hz2
      rw [cnA_spec top h] at hz
      have hz3 : zs ∈ twoS (nbF 0 (plF rs top ids)) ++ ps.flatMap (besS ps (nbF 0 (plF rs top ids))) := by
        unfold cnfI at hz2
        rcases List.mem_append.1 hz2 with g | g
        · exact absurd g hown
        · have e1 := cnf_same ps ids (nbsF 0 (ids.map (chF rs top))) (ofIds_ch rs top ids 0) ((ids_pair h).imp (fun {a b} hab e => by omega))
          unfold cnfI cnfS at e1
          rw [hflat] at e1
          have e2 := List.append_inj_right e1 (by rw [List.length_map, List.length_map, nbsF_len, List.length_map])
          rw [← e2]; exact g
      rw [hN]
      rcases List.mem_append.1 hz3 with hz3 | hz3
      · obtain ⟨x, hx, y, hy, hxy, _, rfl⟩ := twoS_mem _ (nb_up _) zs hz3
        obtain ⟨a, ha, rfl⟩ := nb_mem hx
        obtain ⟨b, hb, rfl⟩ := nb_mem hy
        dsimp only at hxy ⊢
        exact good_two ⟨by omega, by omega⟩ ⟨by omega, by omega⟩ (by omega) (by omega)
      · obtain ⟨q, hq, hz3⟩ := List.mem_flatMap.1 hz3
        unfold besS at hz3
        obtain ⟨x, hx, hz3⟩ := List.mem_flatMap.1 hz3
        obtain ⟨y, hy, hz3⟩ := List.mem_flatMap.1 hz3
        split at hz3
        · rename_i hc
          rw [List.mem_singleton] at hz3
          subst hz3
          obtain ⟨a, ha, rfl⟩ := nb_mem hx
          obtain ⟨b, hb, rfl⟩ := nb_mem hy
          obtain ⟨c1, c2, _⟩ := hc
          dsimp only at c1 c2 ⊢
          have hlt : q.1 < q.2.1 := (h.2.1.2.2.2.1 q hq).1
          refine good_two ⟨by omega, by omega⟩ ⟨by omega, by omega⟩ (by omega) (fun e => ?_)
          obtain rfl : a = b := by omega
          omega
        · simp at hz3
  refine ⟨⟨by omega, by rw [hN]; omega⟩, h4, fun i hi => ?_⟩
  simp only [List.getD_eq_getElem?_getD, List.getElem?_eq_getElem hi, Option.getD_some]
  exact key _ (List.getElem_mem hi)

end Go.Proofs.Ytdmfljejlhlbnaa
namespace Go.Proofs.Ytdmfljejlhlbnaa
open Go.RowKit
set_option linter.unusedVariables false

theorem tr_up (pl V : List LPl) (k : Nat) : (trK pl V k).Pairwise (· < ·) := by
  unfold trK
  rw [List.pairwise_map]
  exact (List.pairwise_lt_range.filter _).imp (fun {a b} h => by omega)
theorem tr_rise (pl V : List LPl) : InRise 1 V.length (trK pl V V.length) := fun k hk =>
  ⟨by
    obtain ⟨m, hm, e, _⟩ := (tr_mem pl V _).1 (getD_mem hk)
    rw [e]; exact ⟨by omega, by omega⟩, fun h0 => pair_rise _ (tr_up pl V _) k hk h0⟩
theorem filter_one {a : Int} : ∀ l : List Int, l.Pairwise (· ≠ ·) → a ∈ l → l.filter (fun c => decide (c = a)) = [a]
  | [], _, h => by cases h
  | x :: r, hp, h => by
    rw [List.pairwise_cons] at hp
    by_cases e : x = a
    · subst e
      have hr : r.filter (fun c => decide (c = x)) = [] := List.filter_eq_nil_iff.2 (fun c hc => by have := hp.1 c hc; simp; exact fun g => this g.symm)
      rw [List.filter_cons, hr]; simp
    · have ha : a ∈ r := by
        rcases List.mem_cons.1 h with g | g
        · exact absurd g.symm e
        · exact g
      rw [List.filter_cons, filter_one r hp.2 ha]; simp [e]
theorem ch_one {rs : List LSt} {ps : List LPr} {top : Int} {pl : List LPl} (h : PlanOk rs ps top pl) {p : LPl} (hp : p ∈ pl) : (chF rs top p.1).filter (fun q => B (q ∈ pl)) = [p] := by
  unfold chF
  rw [List.filter_map]
  have e : (rs.flatMap (domF p.1 top)).filter ((fun q : LPl => B (q ∈ pl)) ∘ fun c => (p.1, c)) = (rs.flatMap (domF p.1 top)).filter (fun c => decide (c = p.2)) := by
    refine List.filter_congr (fun c _ => ?_)
    show B ((p.1, c) ∈ pl) = decide (c = p.2)
    by_cases hc : c = p.2
    · subst hc; rw [B_yes (show (p.1, p.2) ∈ pl from hp)]; simp
    · rw [B_no (fun g => hc (by have := one_id h.ids g hp rfl; rw [← this]))]; simp [hc]
  rw [e, filter_one _ (dom_ne rs ps p.1 top h.ids.2.1) (h.dom p hp)]
  rfl
theorem plan_back {rs : List LSt} {ps : List LPr} {top : Int} {pl : List LPl} (h : PlanOk rs ps top pl) : (plF rs top (pidsL pl)).filter (fun q => B (q ∈ pl)) = pl := by
  have key : ∀ l : List LPl, (∀ p ∈ l, p ∈ pl) → ((pidsL l).flatMap (chF rs top)).filter (fun q => B (q ∈ pl)) = l := by
    intro l
    induction l with
    | nil => intro _; rfl
    | cons p r ih =>
      intro hl
      simp only [pidsL, List.map_cons, List.flatMap_cons, List.filter_append]
      rw [ch_one h (hl p (by simp)), show List.filter (fun q => B (q ∈ pl)) ((r.map fun p => p.1).flatMap (chF rs top)) = r from ih (fun q hq => hl q (by simp [hq]))]
      rfl
  exact key pl (fun _ hp => hp)
theorem po_tr (pl V : List LPl) : ∀ k, k ≤ V.length → poP V (trK pl V k) = (V.take k).filter (fun q => B (q ∈ pl)) := by
  intro k
  induction k with
  | zero => intro _; rfl
  | succ k ih =>
    intro hk
    have hk' : k < V.length := by omega
    have hg : V.getD k (0, 0) = V[k] := by simp [hk']
    rw [List.take_succ_eq_append_getElem hk', List.filter_append, ← ih (by omega)]
    cases hb : B (V[k] ∈ pl) with
    | true =>
      rw [trK_yes pl V k (by rw [hg]; exact hb), List.filter_cons, hb]
      unfold poP
      rw [List.map_append]
      simp [hk']
    | false =>
      rw [trK_no pl V k (by rw [hg]; exact hb), List.filter_cons, hb]
      simp
theorem trA_yes {rs : List LSt} {ps : List LPr} {top : Int} {pl : List LPl} (h : planB rs ps top pl = true) : trA rs ps top pl = trK pl (plF rs top (pidsL pl)) (plF rs top (pidsL pl)).length := by unfold trA; rw [if_pos h]
theorem trA_no {rs : List LSt} {ps : List LPr} {top : Int} {pl : List LPl} (h : ¬ planB rs ps top pl = true) : trA rs ps top pl = [] := by unfold trA; rw [if_neg h]
/-- No clause of the table is false of the trues of a right plan. -/
theorem plan_fault {rs : List LSt} {ps : List LPr} {top : Int} {pl : List LPl} (h : planB rs ps top pl = true) : fC (cnN rs ps top (pidsL pl) : Nat) (cnA rs ps top (pidsL pl)) (trA rs ps top pl) = -1 := by
  have ok := (planB_ok rs ps top pl).1 h
  have hN : cnN rs ps top (pidsL pl) = (plF rs top (pidsL pl)).length := by unfold cnN; rw [B_yes ok.ids]; rfl
  have h96 := plF_96 top (pidsL pl) ok.ids
  rw [trA_yes h]
  have hl := trK_len pl (plF rs top (pidsL pl)) (plF rs top (pidsL pl)).length
  rw [fC_yes (by omega) ⟨cnA_right top ok.ids, by rw [hN]; exact tr_rise pl _⟩]
  refine fF_all (Nat.le_refl _) (fun i hi => ?_)
  simp only [List.getD_eq_getElem?_getD, List.getElem?_eq_getElem hi, Option.getD_some]
  exact plan_true ok _ (List.getElem_mem hi)
/-- And the trues give the plan back. -/
theorem plan_of {rs : List LSt} {ps : List LPr} {top : Int} {pl : List LPl} (h : planB rs ps top pl = true) : poA rs ps top (pidsL pl) (trA rs ps top pl) = pl := by
  have ok := (planB_ok rs ps top pl).1 h
  have h96 := plF_96 top (pidsL pl) ok.ids
  rw [trA_yes h]
  have hl := trK_len pl (plF rs top (pidsL pl)) (plF rs top (pidsL pl)).length
  have e : poP (plF rs top (pidsL pl)) (trK pl (plF rs top (pidsL pl)) (plF rs top (pidsL pl)).length) = pl := by
    rw [po_tr pl _ _ (Nat.le_refl _), List.take_length]
    exact plan_back ok
  have hok : PoOK rs ps top (pidsL pl) (trK pl (plF rs top (pidsL pl)) (plF rs top (pidsL pl)).length) := ⟨by omega, ok.ids, tr_rise pl _, by rw [e]⟩
  unfold poA
  rw [B_yes hok, if_pos rfl, e]

end Go.Proofs.Ytdmfljejlhlbnaa
namespace Go.Proofs.Ytdmfljejlhlbnaa
open Go.RowKit
set_option linter.unusedVariables false

theorem ne34 (a b : Int) (w : World) : Sem.run Try.prog (binOp .neq 34 (.agg #[.int .i64 a, .int .i64 b]) (.agg #[.int .i64 a, .int .i64 b])) w = .ok (.bool false) w := by
  have u2 := Try.underlying2
  have a2 := Try.isAgg2
  have z2 := Try.sizeOf2
  have hS : Try.prog.underlying 34 = some (.struct (Try.prog.fieldsOf 34)) := by kernel_rfl
  have hp : Try.prog.stoodInHeld 34 = false := by kernel_rfl
  rw [run_neq_struct, show (10000 : Nat) = 9999 + 1 from rfl, run_equalIn_agg w 9999 34 _ _ hS hp]
  simp only [Program.fieldsOf, Try.underlying34]
  go_simp

set_option maxRecDepth 100000 in
set_option maxHeartbeats 2000000 in
/-- laws.lwPlaces. -/
theorem lwp_any (sl : Option Addr) (cap : Nat) (pl : List LPl) (w : World) (hn : pl.length ≤ 1048576) (hz : Pls w sl pl) :
    Calls Try.prog 17 #[.slice sl pl.length cap] w fun e w' => ∃ v, e = .returned v ∧ w'.ownsRow w.heap.size 34 2 v pl.length (enCells pl) ∧ Below w.heap.size w w' := by
  have B0 := Lib.hid (bA0 w (.cells #[] 34))
  obtain ⟨v9, w9, ha, ow, gr, hj⟩ := appP (ks := []) (own_none2 w) cap (hz.below B0.out) B0.out.size (by simp; omega)
  have ha' := ha 27
  have O9 : Hid (w9.ownsRow w.heap.size 34 2 v9 pl.length (enCells pl)) := by
    have := ow
    rwa [List.nil_append] at this
  have B9 := Lib.hid (B0.out.grown gr B0.out.size hj)
  clear ha ow gr hj hz B0
  generalize pl.length = n at *
  go_enter Try.func17, Try.ntmps17
  go_wp2_with (at_builtin; refine Lib.wpList_append_run _ rfl _ _ _ _ rfl _ _ rfl rfl _ _ ha' ?_)
  go_ret
  exact ⟨_, rfl, O9.out, B9.out⟩

set_option maxRecDepth 100000 in
set_option maxHeartbeats 2000000 in
/-- laws.lwPlan, of the same places twice. -/
theorem lwq_any (sl sl' : Option Addr) (cap cap' : Nat) (pl : List LPl) (w : World) (hn : pl.length ≤ 1048576) (hz : Pls w sl pl) (hz' : Pls w sl' pl) :
    Calls Try.prog 18 #[.slice sl pl.length cap, .slice sl' pl.length cap'] w fun e w' => e = .returned (.bool true) ∧ Below w.heap.size w w' := by
  have HZ := Lib.hid hz
  have HZ' := Lib.hid hz'
  clear hz hz'
  generalize hN : pl.length = n at *
  have HN := Lib.hid hN
  clear hN
  go_enter Try.func18, Try.ntmps18
  go_wp2
  go_loopw [5] (fun i wr => ∃ k : Nat, i = .int .i64 k ∧ k ≤ n ∧ Hid (Below w.heap.size w wr)) (fun i _ => n - (intOf i).toNat)
  case atStart => exact ⟨0, rfl, Nat.zero_le _, Below.refl _ _⟩
  case round =>
    obtain ⟨k, rfl, hk, H2⟩ := hrel
    have hk0 : (0 : Int) ≤ (k : Int) := by omega
    by_cases g1 : k < n
    · have g1' : (k : Int) < (n : Int) := by omega
      have hlt : k < pl.length := by rw [HN.out]; exact g1
      obtain ⟨c, o, rfl, Z0⟩ : ∃ c o, sl = some ⟨c, o, none⟩ ∧ PlAt w c o pl := by
        rcases HZ.out with e | h
        · rw [e] at hlt; simp at hlt
        · exact h
      obtain ⟨c', o', rfl, Z0'⟩ : ∃ c o, sl' = some ⟨c, o, none⟩ ∧ PlAt w c o pl := by
        rcases HZ'.out with e | h
        · rw [e] at hlt; simp at hlt
        · exact h
      obtain ⟨⟨a, b⟩, hp⟩ : ∃ p, pl[k]'hlt = p := ⟨_, rfl⟩
      have KS : Hid ((c < wr.drew.heap.size ∧ wr.drew.cell? ⟨c, o + k * 2, none⟩ = some (.int .i64 a) ∧ wr.drew.cell? ⟨c, o + k * 2 + 1, none⟩ = some (.int .i64 b)) ∧ c' < wr.drew.heap.size ∧ wr.drew.cell? ⟨c', o' + k * 2, none⟩ = some (.int .i64 a) ∧ wr.drew.cell? ⟨c', o' + k * 2 + 1, none⟩ = some (.int .i64 b)) := by
        have q := (Z0.below H2.out.drew).cell k hlt
        have q' := (Z0'.below H2.out.drew).cell k hlt
        rw [hp] at q q'
        exact ⟨⟨(Z0.below H2.out.drew).lt, q⟩, (Z0'.below H2.out.drew).lt, q'⟩
      have D2 := Lib.hid H2.out.drew
      have hgt : Try.prog.eqGuardType Try.prog.depth 34 = false := by kernel_rfl
      have hnq := ne34 a b
      clear Z0 Z0' hp hlt
      go_wp2_with fail
      refine wp_region_held_drew (S := fun W => (c < W.heap.size ∧ W.cell? ⟨c, o + k * 2, none⟩ = some (.int .i64 a) ∧ W.cell? ⟨c, o + k * 2 + 1, none⟩ = some (.int .i64 b)) ∧ c' < W.heap.size ∧ W.cell? ⟨c', o' + k * 2, none⟩ = some (.int .i64 a) ∧ W.cell? ⟨c', o' + k * 2 + 1, none⟩ = some (.int .i64 b)) (by kernel_rfl) ?_ (fun hHeld => ?_)
      · exact KS.out
      refine wpAnyH_take (i := 0) (oi := _) (v := ?_) rfl (by kernel_rfl) (by kernel_rfl) (by kernel_rfl) (fun _ _ _ h => h) (Or.inl ⟨by rfl, ?_⟩) (by assumption) ?_
      rotate_left
      · first | (intro w hSw; (try dsimp only at hSw); go_simp; done) | (intro w hSw; (try dsimp only at hSw); go_simp; with_reducible rfl)
      try simp only [Act.put, List.setIfInBounds_toArray, List.set_cons_zero, List.set_cons_succ, List.getElem_toArray, List.getElem_cons_zero]
      refine wpAnyH_take (i := 1) (oi := _) (v := ?_) rfl (by kernel_rfl) (by kernel_rfl) (by kernel_rfl) (fun _ _ _ h => h) (Or.inl ⟨by rfl, ?_⟩) (by assumption) ?_
      rotate_left
      · first | (intro w hSw; (try dsimp only at hSw); go_simp; done) | (intro w hSw; (try dsimp only at hSw); go_simp; with_reducible rfl)
      try simp only [Act.put, List.setIfInBounds_toArray, List.set_cons_zero, List.set_cons_succ, List.getElem_toArray, List.getElem_cons_succ, List.getElem_cons_zero]
      refine wpAnyH_take (i := 2) (oi := _) (v := ?_) rfl (by kernel_rfl) (by kernel_rfl) (by kernel_rfl) (fun _ _ _ h => h) (Or.inl ⟨by rfl, ?_⟩) (by assumption) ?_
      rotate_left
      · first | (intro w hSw; (try dsimp only at hSw); go_simp; done) | (intro w hSw; (try dsimp only at hSw); go_simp; with_reducible rfl)
      try simp only [Act.put, List.setIfInBounds_toArray, List.set_cons_zero, List.set_cons_succ, List.getElem_toArray, List.getElem_cons_succ, List.getElem_cons_zero]
      refine wpAnyH_take (i := 3) (oi := _) (v := ?_) rfl (by kernel_rfl) (by kernel_rfl) (by kernel_rfl) (fun _ _ _ h => h) (Or.inl ⟨by rfl, ?_⟩) (by assumption) ?_
      rotate_left
      · first | (intro w hSw; (try dsimp only at hSw); go_simp; done) | (intro w hSw; (try dsimp only at hSw); go_simp; with_reducible rfl)
      try simp only [Act.put, List.setIfInBounds_toArray, List.set_cons_zero, List.set_cons_succ, List.getElem_toArray, List.getElem_cons_succ, List.getElem_cons_zero]
      refine wpAnyH_take (i := 4) (oi := _) (v := ?_) rfl (by kernel_rfl) (by kernel_rfl) (by kernel_rfl) (fun _ _ _ h => h) (Or.inl ⟨by rfl, ?_⟩) (by assumption) ?_
      rotate_left
      · first | (intro w hSw; (try dsimp only at hSw); go_simp; done) | (intro w hSw; (try dsimp only at hSw); go_simp; with_reducible rfl)
      try simp only [Act.put, List.setIfInBounds_toArray, List.set_cons_zero, List.set_cons_succ, List.getElem_toArray, List.getElem_cons_succ, List.getElem_cons_zero]
      refine wpAnyH_take (i := 5) (oi := _) (v := ?_) rfl (by kernel_rfl) (by kernel_rfl) (by kernel_rfl) (fun _ _ _ h => h) (Or.inl ⟨by rfl, ?_⟩) (by assumption) ?_
      rotate_left
      · first | (intro w hSw; (try dsimp only at hSw); go_simp; done) | (intro w hSw; (try dsimp only at hSw); go_simp; with_reducible rfl)
      try simp only [Act.put, List.setIfInBounds_toArray, List.set_cons_zero, List.set_cons_succ, List.getElem_toArray, List.getElem_cons_succ, List.getElem_cons_zero]
      refine wpAnyH_take (i := 6) (oi := _) (v := ?_) rfl (by kernel_rfl) (by kernel_rfl) (by kernel_rfl) (fun _ _ _ h => h) (Or.inl ⟨by rfl, ?_⟩) (by assumption) ?_
      rotate_left
      · first | (intro w hSw; (try dsimp only at hSw); go_simp; done) | (intro w hSw; (try dsimp only at hSw); go_simp; with_reducible rfl)
      try simp only [Act.put, List.setIfInBounds_toArray, List.set_cons_zero, List.set_cons_succ, List.getElem_toArray, List.getElem_cons_succ, List.getElem_cons_zero]
      refine wpAnyH_take (i := 7) (oi := _) (v := ?_) rfl (by kernel_rfl) (by kernel_rfl) (by kernel_rfl) (fun _ _ _ h => h) (Or.inl ⟨by rfl, ?_⟩) (by assumption) ?_
      rotate_left
      · first | (intro w hSw; (try dsimp only at hSw); go_simp; done) | (intro w hSw; (try dsimp only at hSw); go_simp; with_reducible rfl)
      try simp only [Act.put, List.setIfInBounds_toArray, List.set_cons_zero, List.set_cons_succ, List.getElem_toArray, List.getElem_cons_succ, List.getElem_cons_zero]
      refine wpAnyH_take (i := 8) (oi := _) (v := ?_) rfl (by kernel_rfl) (by kernel_rfl) (by kernel_rfl) (fun _ _ _ h => h) (Or.inl ⟨by rfl, ?_⟩) (by assumption) ?_
      rotate_left
      · first | (intro w hSw; (try dsimp only at hSw); go_simp; done) | (intro w hSw; (try dsimp only at hSw); go_simp; with_reducible rfl)
      try simp only [Act.put, List.setIfInBounds_toArray, List.set_cons_zero, List.set_cons_succ, List.getElem_toArray, List.getElem_cons_succ, List.getElem_cons_zero]
      refine wpAnyH_done (by kernel_rfl) ?_ _
      clear KS hnq hgt
      go_wp2
      go_roundw
      case rel => exact ⟨k + 1, by go_num, by omega, D2⟩
      case measure => simp [intOf]; omega
    · have g1' : ¬ (k : Int) < (n : Int) := by omega
      go_wp2
      go_ret
      exact ⟨rfl, H2.out⟩

end Go.Proofs.Ytdmfljejlhlbnaa
namespace Go.Proofs.Ytdmfljejlhlbnaa
open Go.RowKit
set_option linter.unusedVariables false

/-- Numbers put behind numbers: both ways of it. -/
theorem appZ {w : World} {B : Nat} {v : Value} {zs : List Int} (h : w.ownsRow B 2 1 v zs.length (valsZ zs)) {s : Option Addr} {r : List Int} (k : Nat) (hi : Ints w s r) (hB : B ≤ w.heap.size) (hl : zs.length + r.length ≤ 10000000) :
    ∃ v9 w9, (∀ ty, (Builtin.append_ #[40, 40] ty #[v, .slice s r.length k]).run Try.prog w = .ok v9 w9) ∧ w9.ownsRow B 2 1 v9 (zs ++ r).length (valsZ (zs ++ r)) ∧ w.grownBy w9 v.ownBlock ∧ ∀ j, v.ownBlock = some j → B ≤ j := by
  obtain ⟨i3, hi3, hd0, hd1, hd2⟩ := info_parts info2'
  have hlo : ∀ j, v.ownBlock = some j → B ≤ j := fun j hj => (h.lt j hj).1
  obtain ⟨sl, cap, rfl⟩ := own_v h
  by_cases he : r = []
  · subst he
    exact ⟨_, w, fun ty => app_none40 w ty sl zs.length cap (own_cap6 h) s k, by rw [List.append_nil]; exact h, ⟨rfl, rfl, rfl, Nat.le_refl _, fun _ _ _ => rfl⟩, hlo⟩
  · rcases hi with hi | ⟨c, o, rfl, hi⟩
    · exact absurd hi he
    · obtain ⟨g, c9, w9, hr, own9, grow9, hg, -⟩ := run_append_lies (P := Try.prog) w 40 40 B 2 i3 (.int .i64 0) 1 8 Try.underlying40 hi3 hd0 hd1 hd2 rfl (by decide) _ _ _ h ⟨c, o, none⟩ r.length k (valsZ r) (valsZ_len1 r) (int_cells hi) (valsZ_one r) (List.length_pos_iff.2 he) (by unfold maxLen; omega) (by omega) hB w.heap.size rfl
      exact ⟨_, w9, fun ty => hr, by rw [List.length_append, show valsZ (zs ++ r) = valsZ zs ++ valsZ r by simp [valsZ]]; exact own9, grow9, hlo⟩

set_option maxRecDepth 100000 in
set_option maxHeartbeats 2000000 in
/-- laws.lwCopy. -/
theorem lwc_any (sl : Option Addr) (cap : Nat) (zs : List Int) (w : World) (hn : zs.length ≤ 1048576) (hz : Ints w sl zs) :
    Calls Try.prog 26 #[.slice sl zs.length cap] w fun e w' => ∃ v, e = .returned v ∧ w'.ownsRow w.heap.size 2 1 v zs.length (valsZ zs) ∧ Below w.heap.size w w' := by
  have B0 := Lib.hid (bA0 w (.cells #[] 2))
  obtain ⟨v9, w9, ha, ow, gr, hj⟩ := appZ (zs := []) (own_none5 w) cap (hz.below B0.out) B0.out.size (by simp; omega)
  have ha' := ha 40
  have O9 : Hid (w9.ownsRow w.heap.size 2 1 v9 zs.length (valsZ zs)) := by
    have := ow
    rwa [List.nil_append] at this
  have B9 := Lib.hid (B0.out.grown gr B0.out.size hj)
  clear ha ow gr hj hz B0
  generalize zs.length = n at *
  go_enter Try.func26, Try.ntmps26
  go_wp2_with (at_builtin; refine Lib.wpList_append_run _ rfl _ _ _ _ rfl _ _ rfl rfl _ _ ha' ?_)
  go_ret
  exact ⟨_, rfl, O9.out, B9.out⟩

set_option maxRecDepth 100000 in
set_option maxHeartbeats 2000000 in
/-- laws.lwSame, of the same numbers twice. -/
theorem lws_any (sl sl' : Option Addr) (cap cap' : Nat) (zs : List Int) (w : World) (hn : zs.length ≤ maxLen) (hz : Ints w sl zs) (hz' : Ints w sl' zs) :
    Calls Try.prog 89 #[.slice sl zs.length cap, .slice sl' zs.length cap'] w fun e w' => e = .returned (.bool true) ∧ Below w.heap.size w w' := by
  unfold maxLen at hn
  have HZ := Lib.hid hz
  have HZ' := Lib.hid hz'
  clear hz hz'
  generalize hN : zs.length = n at *
  have HN := Lib.hid hN
  clear hN
  go_enter Try.func89, Try.ntmps89
  go_wp2
  go_loopw [5] (fun i wr => ∃ k : Nat, i = .int .i64 k ∧ k ≤ n ∧ Hid (Below w.heap.size w wr)) (fun i _ => n - (intOf i).toNat)
  case atStart => exact ⟨0, rfl, Nat.zero_le _, Below.refl _ _⟩
  case round =>
    obtain ⟨k, rfl, hk, H2⟩ := hrel
    have hk0 : (0 : Int) ≤ (k : Int) := by omega
    by_cases g1 : k < n
    · have g1' : (k : Int) < (n : Int) := by omega
      have hlt : k < zs.length := by rw [HN.out]; exact g1
      obtain ⟨c, o, rfl, Z0⟩ : ∃ c o, sl = some ⟨c, o, none⟩ ∧ IntsAt w c o zs := by
        rcases HZ.out with e | h
        · rw [e] at hlt; simp at hlt
        · exact h
      obtain ⟨c', o', rfl, Z0'⟩ : ∃ c o, sl' = some ⟨c, o, none⟩ ∧ IntsAt w c o zs := by
        rcases HZ'.out with e | h
        · rw [e] at hlt; simp at hlt
        · exact h
      have KS : Hid ((c < wr.drew.heap.size ∧ wr.drew.cell? ⟨c, o + k, none⟩ = some (.int .i64 (zs.getD k 0))) ∧ c' < wr.drew.heap.size ∧ wr.drew.cell? ⟨c', o' + k, none⟩ = some (.int .i64 (zs.getD k 0))) :=
        ⟨⟨Nat.lt_of_lt_of_le Z0.1 H2.out.drew.size, (H2.out.drew.cell (p := ⟨c, o + k, none⟩) Z0.1).trans (Z0.2 k hlt)⟩, Nat.lt_of_lt_of_le Z0'.1 H2.out.drew.size, (H2.out.drew.cell (p := ⟨c', o' + k, none⟩) Z0'.1).trans (Z0'.2 k hlt)⟩
      have D2 := Lib.hid H2.out.drew
      generalize zs.getD k 0 = a at *
      clear Z0 Z0' hlt
      go_wp2_with fail
      refine wp_region_held_drew (S := fun W => (c < W.heap.size ∧ W.cell? ⟨c, o + k, none⟩ = some (.int .i64 a)) ∧ c' < W.heap.size ∧ W.cell? ⟨c', o' + k, none⟩ = some (.int .i64 a)) (by kernel_rfl) ?_ (fun hHeld => ?_)
      · exact KS.out
      refine wpAnyH_take (i := 0) (oi := _) (v := ?_) rfl (by kernel_rfl) (by kernel_rfl) (by kernel_rfl) (fun _ _ _ h => h) (Or.inl ⟨by rfl, ?_⟩) (by assumption) ?_
      rotate_left
      · first | (intro w hSw; (try dsimp only at hSw); go_simp; done) | (intro w hSw; (try dsimp only at hSw); go_simp; with_reducible rfl)
      try simp only [Act.put, List.setIfInBounds_toArray, List.set_cons_zero, List.set_cons_succ, List.getElem_toArray, List.getElem_cons_zero]
      refine wpAnyH_take (i := 1) (oi := _) (v := ?_) rfl (by kernel_rfl) (by kernel_rfl) (by kernel_rfl) (fun _ _ _ h => h) (Or.inl ⟨by rfl, ?_⟩) (by assumption) ?_
      rotate_left
      · first | (intro w hSw; (try dsimp only at hSw); go_simp; done) | (intro w hSw; (try dsimp only at hSw); go_simp; with_reducible rfl)
      try simp only [Act.put, List.setIfInBounds_toArray, List.set_cons_zero, List.set_cons_succ, List.getElem_toArray, List.getElem_cons_succ, List.getElem_cons_zero]
      refine wpAnyH_take (i := 2) (oi := _) (v := ?_) rfl (by kernel_rfl) (by kernel_rfl) (by kernel_rfl) (fun _ _ _ h => h) (Or.inl ⟨by rfl, ?_⟩) (by assumption) ?_
      rotate_left
      · first | (intro w hSw; (try dsimp only at hSw); go_simp; done) | (intro w hSw; (try dsimp only at hSw); go_simp; with_reducible rfl)
      try simp only [Act.put, List.setIfInBounds_toArray, List.set_cons_zero, List.set_cons_succ, List.getElem_toArray, List.getElem_cons_succ, List.getElem_cons_zero]
      refine wpAnyH_take (i := 3) (oi := _) (v := ?_) rfl (by kernel_rfl) (by kernel_rfl) (by kernel_rfl) (fun _ _ _ h => h) (Or.inl ⟨by rfl, ?_⟩) (by assumption) ?_
      rotate_left
      · first | (intro w hSw; (try dsimp only at hSw); go_simp; done) | (intro w hSw; (try dsimp only at hSw); go_simp; with_reducible rfl)
      try simp only [Act.put, List.setIfInBounds_toArray, List.set_cons_zero, List.set_cons_succ, List.getElem_toArray, List.getElem_cons_succ, List.getElem_cons_zero]
      refine wpAnyH_take (i := 4) (oi := _) (v := ?_) rfl (by kernel_rfl) (by kernel_rfl) (by kernel_rfl) (fun _ _ _ h => h) (Or.inl ⟨by rfl, ?_⟩) (by assumption) ?_
      rotate_left
      · first | (intro w hSw; (try dsimp only at hSw); go_simp; done) | (intro w hSw; (try dsimp only at hSw); go_simp; with_reducible rfl)
      try simp only [Act.put, List.setIfInBounds_toArray, List.set_cons_zero, List.set_cons_succ, List.getElem_toArray, List.getElem_cons_succ, List.getElem_cons_zero]
      refine wpAnyH_take (i := 5) (oi := _) (v := ?_) rfl (by kernel_rfl) (by kernel_rfl) (by kernel_rfl) (fun _ _ _ h => h) (Or.inl ⟨by rfl, ?_⟩) (by assumption) ?_
      rotate_left
      · first | (intro w hSw; (try dsimp only at hSw); go_simp; done) | (intro w hSw; (try dsimp only at hSw); go_simp; with_reducible rfl)
      try simp only [Act.put, List.setIfInBounds_toArray, List.set_cons_zero, List.set_cons_succ, List.getElem_toArray, List.getElem_cons_succ, List.getElem_cons_zero]
      refine wpAnyH_take (i := 6) (oi := _) (v := ?_) rfl (by kernel_rfl) (by kernel_rfl) (by kernel_rfl) (fun _ _ _ h => h) (Or.inl ⟨by rfl, ?_⟩) (by assumption) ?_
      rotate_left
      · first | (intro w hSw; (try dsimp only at hSw); go_simp; done) | (intro w hSw; (try dsimp only at hSw); go_simp; with_reducible rfl)
      try simp only [Act.put, List.setIfInBounds_toArray, List.set_cons_zero, List.set_cons_succ, List.getElem_toArray, List.getElem_cons_succ, List.getElem_cons_zero]
      refine wpAnyH_take (i := 7) (oi := _) (v := ?_) rfl (by kernel_rfl) (by kernel_rfl) (by kernel_rfl) (fun _ _ _ h => h) (Or.inl ⟨by rfl, ?_⟩) (by assumption) ?_
      rotate_left
      · first | (intro w hSw; (try dsimp only at hSw); go_simp; done) | (intro w hSw; (try dsimp only at hSw); go_simp; with_reducible rfl)
      try simp only [Act.put, List.setIfInBounds_toArray, List.set_cons_zero, List.set_cons_succ, List.getElem_toArray, List.getElem_cons_succ, List.getElem_cons_zero]
      refine wpAnyH_take (i := 8) (oi := _) (v := ?_) rfl (by kernel_rfl) (by kernel_rfl) (by kernel_rfl) (fun _ _ _ h => h) (Or.inl ⟨by rfl, ?_⟩) (by assumption) ?_
      rotate_left
      · first | (intro w hSw; (try dsimp only at hSw); go_simp; done) | (intro w hSw; (try dsimp only at hSw); go_simp; with_reducible rfl)
      try simp only [Act.put, List.setIfInBounds_toArray, List.set_cons_zero, List.set_cons_succ, List.getElem_toArray, List.getElem_cons_succ, List.getElem_cons_zero]
      refine wpAnyH_done (by kernel_rfl) ?_ _
      clear KS
      go_wp2
      go_roundw
      case rel => exact ⟨k + 1, by go_num, by omega, D2⟩
      case measure => simp [intOf]; omega
    · have g1' : ¬ (k : Int) < (n : Int) := by omega
      go_wp2
      go_ret
      exact ⟨rfl, H2.out⟩

set_option maxRecDepth 100000 in
set_option maxHeartbeats 2000000 in
/-- laws.lwLists, of the same lists twice. -/
theorem lwl_any (sl sl' : Option Addr) (cap cap' : Nat) (cs ds : List LCl) (w : World) (hn : cs.length ≤ 1048576) (he : bareC cs = bareC ds) (hz : Cls w sl cs) (hz' : Cls w sl' ds) :
    Calls Try.prog 28 #[.slice sl cs.length cap, .slice sl' ds.length cap'] w fun e w' => e = .returned (.bool true) ∧ Below w.heap.size w w' := by
  rw [← bareC_len he]
  have HZ := Lib.hid hz
  have HZ' := Lib.hid hz'
  have HE := Lib.hid he
  have hl2 := Lib.hid (bareC_len he)
  clear hz hz' he
  generalize hN : cs.length = n at *
  have HN := Lib.hid hN
  clear hN
  go_enter Try.func28, Try.ntmps28
  go_wp2
  go_loopw [5] (fun i wr => ∃ k : Nat, i = .int .i64 k ∧ k ≤ n ∧ Hid (Below w.heap.size w wr)) (fun i _ => n - (intOf i).toNat)
  case atStart => exact ⟨0, rfl, Nat.zero_le _, Below.refl _ _⟩
  case round =>
    obtain ⟨k, rfl, hk, H2⟩ := hrel
    have hk0 : (0 : Int) ≤ (k : Int) := by omega
    by_cases g1 : k < n
    · have g1' : (k : Int) < (n : Int) := by omega
      have hlt : k < cs.length := by rw [HN.out]; exact g1
      have hlt' : k < ds.length := by rw [← hl2.out]; exact g1
      have D2 := Lib.hid H2.out.drew
      have Z1 := HZ.out.below D2.out
      have Z1' := HZ'.out.below D2.out
      obtain ⟨c, o, rfl, Z0⟩ := Z1.at hlt
      obtain ⟨c', o', rfl, Z0'⟩ := Z1'.at hlt'
      obtain ⟨ra, ka, ea, ia, la⟩ := Z1.each _ (List.getElem_mem hlt)
      obtain ⟨rb, kb, eb, ib, lb⟩ := Z1'.each _ (List.getElem_mem hlt')
      have e2 : cs[k].2 = ds[k].2 := by
        have := congrArg (fun l : List (List Int) => l[k]?) HE.out
        simpa [bareC, hlt, hlt'] using this
      have q := Z0.2 k hlt
      have q' := Z0'.2 k hlt'
      rw [ea] at q
      rw [eb, ← e2] at q'
      rw [← e2] at ib
      have cl := Z0.1
      have cl' := Z0'.1
      have KS : Hid (∀ W, Below wr.drew.heap.size wr.drew W → (c < W.heap.size ∧ W.cell? ⟨c, o + k, none⟩ = some (.slice ra cs[k].2.length ka)) ∧ c' < W.heap.size ∧ W.cell? ⟨c', o' + k, none⟩ = some (.slice rb cs[k].2.length kb)) := fun W hW =>
        ⟨⟨Nat.lt_of_lt_of_le cl hW.size, (hW.cell (p := ⟨c, o + k, none⟩) cl).trans q⟩, Nat.lt_of_lt_of_le cl' hW.size, (hW.cell (p := ⟨c', o' + k, none⟩) cl').trans q'⟩
      have CS := Lib.hid (lws_any ra rb ka kb cs[k].2 wr.drew la ia ib)
      clear Z0 Z0' Z1 Z1' ea eb ia ib la lb e2 q q' cl cl'
      generalize cs[k].2.length = u at *
      have K0 := Lib.hid (KS.out _ (Below.refl _ _))
      clear hlt hlt'
      go_wp2_with fail
      refine wp_region_held_drew (S := fun W => (c < W.heap.size ∧ W.cell? ⟨c, o + k, none⟩ = some (.slice ra u ka)) ∧ c' < W.heap.size ∧ W.cell? ⟨c', o' + k, none⟩ = some (.slice rb u kb)) (by kernel_rfl) ?_ (fun hHeld => ?_)
      · exact K0.out
      refine wpAnyH_take (i := 0) (oi := _) (v := ?_) rfl (by kernel_rfl) (by kernel_rfl) (by kernel_rfl) (fun _ _ _ h => h) (Or.inl ⟨by rfl, ?_⟩) (by assumption) ?_
      rotate_left
      · first | (intro w hSw; (try dsimp only at hSw); go_simp; done) | (intro w hSw; (try dsimp only at hSw); go_simp; with_reducible rfl)
      try simp only [Act.put, List.setIfInBounds_toArray, List.set_cons_zero, List.set_cons_succ, List.getElem_toArray, List.getElem_cons_zero]
      refine wpAnyH_take (i := 1) (oi := _) (v := ?_) rfl (by kernel_rfl) (by kernel_rfl) (by kernel_rfl) (fun _ _ _ h => h) (Or.inl ⟨by rfl, ?_⟩) (by assumption) ?_
      rotate_left
      · first | (intro w hSw; (try dsimp only at hSw); go_simp; done) | (intro w hSw; (try dsimp only at hSw); go_simp; with_reducible rfl)
      try simp only [Act.put, List.setIfInBounds_toArray, List.set_cons_zero, List.set_cons_succ, List.getElem_toArray, List.getElem_cons_succ, List.getElem_cons_zero]
      refine wpAnyH_take (i := 2) (oi := _) (v := ?_) rfl (by kernel_rfl) (by kernel_rfl) (by kernel_rfl) (fun _ _ _ h => h) (Or.inl ⟨by rfl, ?_⟩) (by assumption) ?_
      rotate_left
      · first | (intro w hSw; (try dsimp only at hSw); go_simp; done) | (intro w hSw; (try dsimp only at hSw); go_simp; with_reducible rfl)
      try simp only [Act.put, List.setIfInBounds_toArray, List.set_cons_zero, List.set_cons_succ, List.getElem_toArray, List.getElem_cons_succ, List.getElem_cons_zero]
      refine wpAnyH_take (i := 3) (oi := _) (v := ?_) rfl (by kernel_rfl) (by kernel_rfl) (by kernel_rfl) (fun _ _ _ h => h) (Or.inl ⟨by rfl, ?_⟩) (by assumption) ?_
      rotate_left
      · first | (intro w hSw; (try dsimp only at hSw); go_simp; done) | (intro w hSw; (try dsimp only at hSw); go_simp; with_reducible rfl)
      try simp only [Act.put, List.setIfInBounds_toArray, List.set_cons_zero, List.set_cons_succ, List.getElem_toArray, List.getElem_cons_succ, List.getElem_cons_zero]
      refine wpAnyH_take (i := 4) (oi := _) (v := ?_) rfl (by kernel_rfl) (by kernel_rfl) (by kernel_rfl) (fun _ _ _ h => h) (Or.inl ⟨by rfl, ?_⟩) (by assumption) ?_
      rotate_left
      · first | (intro w hSw; (try dsimp only at hSw); go_simp; done) | (intro w hSw; (try dsimp only at hSw); go_simp; with_reducible rfl)
      try simp only [Act.put, List.setIfInBounds_toArray, List.set_cons_zero, List.set_cons_succ, List.getElem_toArray, List.getElem_cons_succ, List.getElem_cons_zero]
      refine wpAnyH_take (i := 5) (oi := _) (v := ?_) rfl (by kernel_rfl) (by kernel_rfl) (by kernel_rfl) (fun _ _ _ h => h) (Or.inl ⟨by rfl, ?_⟩) (by assumption) ?_
      rotate_left
      · first | (intro w hSw; (try dsimp only at hSw); go_simp; done) | (intro w hSw; (try dsimp only at hSw); go_simp; with_reducible rfl)
      try simp only [Act.put, List.setIfInBounds_toArray, List.set_cons_zero, List.set_cons_succ, List.getElem_toArray, List.getElem_cons_succ, List.getElem_cons_zero]
      refine wpAnyH_take (i := 6) (oi := _) (v := ?_) rfl (by kernel_rfl) (by kernel_rfl) (by kernel_rfl) (fun _ _ _ h => h) (Or.inl ⟨by rfl, ?_⟩) (by assumption) ?_
      rotate_left
      · first | (intro w hSw; (try dsimp only at hSw); go_simp; done) | (intro w hSw; (try dsimp only at hSw); go_simp; with_reducible rfl)
      try simp only [Act.put, List.setIfInBounds_toArray, List.set_cons_zero, List.set_cons_succ, List.getElem_toArray, List.getElem_cons_succ, List.getElem_cons_zero]
      refine wpAnyH_take (i := 7) (oi := _) (v := ?_) rfl (by kernel_rfl) (by kernel_rfl) (by kernel_rfl) (fun _ _ _ h => h) (Or.inl ⟨by rfl, ?_⟩) (by assumption) ?_
      rotate_left
      · first | (intro w hSw; (try dsimp only at hSw); go_simp; done) | (intro w hSw; (try dsimp only at hSw); go_simp; with_reducible rfl)
      try simp only [Act.put, List.setIfInBounds_toArray, List.set_cons_zero, List.set_cons_succ, List.getElem_toArray, List.getElem_cons_succ, List.getElem_cons_zero]
      refine wpAnyH_ready (rs := [8]) (by kernel_rfl) (by simp) ?_
      refine AllReadyH.cons rfl (fun K hK => ?_) AllReadyH.nil
      go_simp
      go_wp2_with (go_at_call 89; refine CS.out.mono ?_; rintro e w9 ⟨rfl, b9'⟩)
      have b9 := Lib.hid b9'
      clear b9' CS
      refine hK.out _ _ ?_ (fun hHeld => ?_)
      · exact KS.out _ b9.out
      clear hK K
      refine wpAnyH_take (i := 9) (oi := _) (v := ?_) rfl (by kernel_rfl) (by kernel_rfl) (by kernel_rfl) (fun _ _ _ h => h) (Or.inl ⟨by rfl, ?_⟩) (by assumption) ?_
      rotate_left
      · first | (intro w hSw; (try dsimp only at hSw); go_simp; done) | (intro w hSw; (try dsimp only at hSw); go_simp; with_reducible rfl)
      try simp only [Act.put, List.setIfInBounds_toArray, List.set_cons_zero, List.set_cons_succ, List.getElem_toArray, List.getElem_cons_succ, List.getElem_cons_zero]
      refine wpAnyH_done (by kernel_rfl) ?_ _
      have F9 : Hid (Below w.heap.size w w9) := bT D2.out b9.out
      clear KS K0 b9
      go_wp2
      go_roundw
      case rel => exact ⟨k + 1, by go_num, by omega, F9⟩
      case measure => simp [intOf]; omega
    · have g1' : ¬ (k : Int) < (n : Int) := by omega
      go_wp2
      go_ret
      exact ⟨rfl, H2.out⟩

end Go.Proofs.Ytdmfljejlhlbnaa
