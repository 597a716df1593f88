/-
  IS A CLAUSE TRUE? impl.clauseTrue; is a number in a list? spec.l01Has.
  THE FIRST CLAUSE THAT IS NOT TRUE: impl.CnfFault, impl.CnfTrue.
  THE CLAUSES OF A TABLE ARE TRUE OF A RIGHT PLAN, as lists.
  HOW MANY CLAUSES a table has, and how long they are; tables that differ in their slices only.
  THE CLAUSES OF A TABLE ARE RIGHT, as lists: how many, how long, of which literals.
  MARKS ON PLACES; two lists of numbers held against each other: slices.Equal.
  THE PLAN OF TRUES: impl.PlanOf.
  A RIGHT PLAN, ITS TRUES AND BACK, as lists.
-/
import Derived.Test.YtaogkdhloogmhaaHaj
import Derived.Test.YtaogkdhloogmhaaHah
import Derived.Test.YtaogkdhloogmhaaHaf
import Derived.BigQuiet
namespace Go.Proofs.Ytaogkdhloogmhaa
open Go.RowKit Go.Shelf
set_option linter.unusedVariables false
attribute [local go_sem] Oper.semAt_some

set_option maxHeartbeats 1000000 in
/-- spec.l01Has. -/
theorem lhas_any (sl : Option Addr) (cap : Nat) (zs : List Int) (x : Int) (w : World) (hn : zs.length ≤ maxLen) (hz : Ints w sl zs) :
    Calls Try.prog 42 #[.slice sl zs.length cap, .int .i64 x] w fun e w' => e = .returned (.bool (B (x ∈ zs))) ∧ w' = w := by
  unfold maxLen at hn
  have HZ := Lib.hid hz
  clear hz
  generalize hR : B (x ∈ zs) = r
  have HR := Lib.hid hR
  clear hR
  generalize hN : zs.length = n at *
  have HN := Lib.hid hN
  clear hN
  go_enter Try.func42, Try.ntmps42
  go_wp2
  go_loopw [5] (fun i wr => ∃ k : Nat, i = .int .i64 k ∧ k ≤ n ∧ Hid (NotIn zs x k) ∧ wr = w) (fun i _ => n - (intOf i).toNat)
  case atStart => exact ⟨0, rfl, Nat.zero_le _, fun i h => absurd h (Nat.not_lt_zero _), rfl⟩
  case round =>
    obtain ⟨k, rfl, hk, NI, rfl⟩ := hrel
    have hk0 : (0 : Int) ≤ (k : Int) := by omega
    by_cases h1 : k < n
    · have h1' : (k : Int) < (n : Int) := by omega
      have hlt : k < zs.length := by rw [HN.out]; exact h1
      obtain ⟨c, o, rfl, ZI⟩ : ∃ c o, sl = some ⟨c, o, none⟩ ∧ IntsAt wr c o zs := by
        rcases HZ.out with e | h
        · rw [e] at hlt; simp at hlt
        · exact h
      have hc := ZI.2 k hlt
      by_cases hx : zs.getD k 0 = x
      · have R := Lib.hid (show r = true by rw [← HR.out]; exact B_yes (by rw [← hx]; simp [hlt]))
        have hx' : (zs.getD k 0 == x) = true := beq_iff_eq.2 hx
        generalize zs.getD k 0 = z at *
        clear hlt ZI hx
        go_wp2
        go_ret
        exact ⟨by rw [R.out]; rfl, rfl⟩
      · have hx' : (zs.getD k 0 == x) = false := beq_eq_false_iff_ne.2 hx
        have NI2 := Lib.hid (show NotIn zs x (k + 1) from fun i hi => by
          by_cases e : i = k
          · subst e; exact hx
          · exact NI.out i (by omega))
        generalize zs.getD k 0 = z at *
        clear hlt ZI hx NI
        go_wp2
        go_roundw
        case rel => exact ⟨k + 1, by go_num, by omega, NI2, trivial⟩
        case measure => simp [intOf]; omega
    · have h1' : ¬ (k : Int) < (n : Int) := by omega
      have R := Lib.hid (show r = false by
        rw [← HR.out]
        refine B_no (notIn_mem ?_)
        have := NI.out
        rwa [show k = zs.length by rw [HN.out]; omega] at this)
      clear NI
      go_wp2
      go_ret
      exact ⟨by rw [R.out]; rfl, rfl⟩

/-- One of the literals is true. -/
def ClT (ts zs : List Int) : Prop := ∃ z ∈ zs, (lv z ∈ ts ↔ 0 < z)
def NoT (ts zs : List Int) : Prop := ∀ z ∈ zs, ¬ (lv z ∈ ts ↔ 0 < z)
theorem NoT.nil (ts : List Int) : NoT ts [] := fun z h => absurd h List.not_mem_nil
theorem NoT.step {ts pre : List Int} {x : Int} (h : NoT ts pre) (g : ¬ (lv x ∈ ts ↔ 0 < x)) : NoT ts (pre ++ [x]) := fun z hz => by
  rcases List.mem_append.1 hz with hz | hz
  · exact h z hz
  · rw [List.mem_singleton.1 hz]; exact g
theorem ClT.prefix {ts pre zs : List Int} (h : pre <+: zs) (g : ClT ts pre) : ClT ts zs := by
  obtain ⟨z, hz, e⟩ := g
  exact ⟨z, h.subset hz, e⟩
theorem NoT.no {ts zs : List Int} (h : NoT ts zs) : ¬ ClT ts zs := fun ⟨z, hz, e⟩ => h z hz e

set_option maxRecDepth 100000 in
set_option maxHeartbeats 4000000 in
/-- impl.clauseTrue. -/
theorem clt_any (sl : Option Addr) (cap : Nat) (zs : List Int) (sl2 : Option Addr) (cap2 : Nat) (ts : List Int) (w : World) (hn : zs.length ≤ 1048576) (hm : ts.length ≤ 1048576) (hz : Ints w sl zs) (ht : Ints w sl2 ts) :
    Calls Try.prog 52 #[.slice sl zs.length cap, .slice sl2 ts.length cap2] w fun e w' => e = .returned (.bool (B (ClT ts zs))) ∧ Below w.heap.size w w' := by
  have HZ : Hid (∀ W, Below w.heap.size w W → zs = [] ∨ ∃ b off, sl = some ⟨b, off, none⟩ ∧ b < w.heap.size ∧ ∀ j, j < zs.length → W.cell? ⟨b, off + j, none⟩ = some (.int .i64 (zs[j]?.getD 0))) := fun W hW => by
    rcases hz with e | ⟨c, o, e, hl, hc⟩
    · exact .inl e
    · exact .inr ⟨c, o, e, hl, fun j hj => (hW.cell (p := ⟨c, o + j, none⟩) hl).trans (by rw [hc j hj]; simp)⟩
  have HT : Hid (∀ x W, Below w.heap.size w W → Calls Try.prog 46 #[.slice sl2 ts.length cap2, .int .i64 x] W fun e w' => e = .returned (.bool (B (x ∈ ts))) ∧ Below W.heap.size W w') := fun x W hW => has_any sl2 cap2 x ts W hm (ht.below hW)
  have HN := Lib.hid hn
  clear hz hn ht hm
  generalize ts.length = m at *
  refine (callsIn_wide (n := 6)).1 ?_
  refine callsIn_of_wp_marks Try.func52 rfl trivial ?_ rfl
  simp only [Try.ntmps52, List.size_toArray, List.length_cons, List.length_nil, Nat.reduceAdd, Nat.reduceSub, Array.replicate_succ, Array.replicate_zero, List.push_toArray, List.append_toArray, List.nil_append, List.cons_append]
  gi_wp2_with (refine ⟨trivial, ?_⟩; gi_at_call 68; refine (lits_in Fence.wide _ trivial rfl _ _ _ _).mono ?_; rintro e w' ⟨rfl, rfl⟩)
  have bT0 := Boxed.new w 27 (.slice sl2 m cap2)
  have bR := Boxed.new (w.alloc (.cells #[.slice sl2 m cap2] 27)) 4 (.bool false)
  have bC := Boxed.new ((w.alloc (.cells #[.slice sl2 m cap2] 27)).alloc (.cells #[.bool false] 4)) 27 (.slice sl zs.length cap)
  simp only [World.size_alloc] at bR bC
  have hB0 : Below w.heap.size w (((w.alloc (.cells #[.slice sl2 m cap2] 27)).alloc (.cells #[.bool false] 4)).alloc (.cells #[.slice sl zs.length cap] 27)) := bA (bA (bA0 _ _) _) _
  refine wpIn_rangeFunc_ownG rfl (by omega) (gf := 73) (lb := #[.pointer (some ⟨w.heap.size + 1 + 1, 0, none⟩)]) rfl trivial (enters_of Try.func73 (by kernel_rfl) rfl)
    (lits_stops Fence.wide _ trivial rfl (by omega) (w.heap.size + 1 + 1) w.heap.size sl cap zs HN.out _ (by simp) (by simp; omega) bC.cell (HZ.out _ hB0)) belowK_t (belowK_b (by simp; omega)) (Below.refl _ _) (fun _ => rfl)
    (fun pre W => Boxed W w.heap.size 27 (.slice sl2 m cap2) ∧ Boxed W (w.heap.size + 1) 4 (.bool false) ∧ NoT ts pre ∧ Below w.heap.size w W)
    (fun c pre W => Boxed W (w.heap.size + 1) 4 (.bool true) ∧ (c = .ret ∧ ClT ts pre) ∧ Below w.heap.size w W)
    (OwnFrom.and (Own.from (boxed_own _ _ _) _) (OwnFrom.and (Own.from (boxed_own _ _ _) _) (OwnFrom.and (ownFrom_pure _ _) (ownFrom_below (Nat.le_refl _) (by simp; omega)))))
    (fun c => OwnFrom.and (Own.from (boxed_own _ _ _) _) (OwnFrom.and (ownFrom_pure _ _) (ownFrom_below (Nat.le_refl _) (by simp; omega))))
    ⟨(bT0.alloc _).alloc _, bR.alloc _, NoT.nil ts, hB0⟩
    (fun x => { tmps := #[.slice sl zs.length cap, .slice sl2 m cap2, undef, .pointer (some ⟨w.heap.size, 0, none⟩), .pointer (some ⟨w.heap.size + 1, 0, none⟩), .int .i64 (lv x), .bool (decide (0 < x)), .slice sl zs.length cap, .func (.func 73) #[] #[.pointer (some ⟨w.heap.size + 1 + 1, 0, none⟩)], .int .i64 (lv x), .bool (decide (0 < x)), undef, undef, undef, undef, undef], defers := [] }) ?assign ?body ?done ?stop
  case assign =>
    intro l x W K hK
    gi_wp2
    exact hK
  case body =>
    rintro l pre x W ⟨bT1, bR, hG, hB⟩ hlt
    have hc := bT1.cell
    have E := Lib.hid (HT.out (lv x) W hB)
    have hk1 : 1 ≤ 6 - 1 - 1 := by omega
    have HG := Lib.hid hG
    clear hG
    cases hb : B (lv x ∈ ts) with
    | true =>
      rw [hb] at E
      cases hx : decide (0 < x) with
      | true =>
        have YG := Lib.hid (show ClT ts (pre ++ [x]) from ⟨x, by simp, ⟨fun _ => of_decide_eq_true hx, fun _ => B_true hb⟩⟩)
        clear hb hx
        generalize lv x = y at *
        gi_wp2_with (refine ⟨trivial, ?_⟩; gi_at_call 46; refine (CallsIn.inRound l (callsIn_wide.2 E.out)).mono ?_; rintro e w1 ⟨rfl, b1⟩; have bR1 := boxB bR b1; have hcr1 := bR1.cell; have hfr1 := bR1.frozen)
        exact ⟨(keeps_below b1).trans ((KeepsOthers.setCell _ _ _).from _), bR1.set _, ⟨rfl, YG.out⟩, (bT hB b1).setCell (p := ⟨w.heap.size + 1, 0, none⟩) (by simp) _⟩
      | false =>
        have NG := Lib.hid (HG.out.step (x := x) (fun g => of_decide_eq_false hx (g.1 (B_true hb))))
        clear hb hx
        generalize lv x = y at *
        gi_wp2_with (refine ⟨trivial, ?_⟩; gi_at_call 46; refine (CallsIn.inRound l (callsIn_wide.2 E.out)).mono ?_; rintro e w1 ⟨rfl, b1⟩)
        exact ⟨keeps_below b1, b1.mono hB.size, boxB bT1 b1, boxB bR b1, NG.out, bT hB b1⟩
    | false =>
      rw [hb] at E
      cases hx : decide (0 < x) with
      | true =>
        have NG := Lib.hid (HG.out.step (x := x) (fun g => B_false hb (g.2 (of_decide_eq_true hx))))
        clear hb hx
        generalize lv x = y at *
        gi_wp2_with (refine ⟨trivial, ?_⟩; gi_at_call 46; refine (CallsIn.inRound l (callsIn_wide.2 E.out)).mono ?_; rintro e w1 ⟨rfl, b1⟩)
        exact ⟨keeps_below b1, b1.mono hB.size, boxB bT1 b1, boxB bR b1, NG.out, bT hB b1⟩
      | false =>
        have YG := Lib.hid (show ClT ts (pre ++ [x]) from ⟨x, by simp, ⟨fun h => absurd h (B_false hb), fun h => absurd h (of_decide_eq_false hx)⟩⟩)
        clear hb hx
        generalize lv x = y at *
        gi_wp2_with (refine ⟨trivial, ?_⟩; gi_at_call 46; refine (CallsIn.inRound l (callsIn_wide.2 E.out)).mono ?_; rintro e w1 ⟨rfl, b1⟩; have bR1 := boxB bR b1; have hcr1 := bR1.cell; have hfr1 := bR1.frozen)
        exact ⟨(keeps_below b1).trans ((KeepsOthers.setCell _ _ _).from _), bR1.set _, ⟨rfl, YG.out⟩, (bT hB b1).setCell (p := ⟨w.heap.size + 1, 0, none⟩) (by simp) _⟩
  case done =>
    rintro D ys W hD rfl ⟨-, bR, hG, hB⟩ hK
    have hcr := bR.cell
    have hfr := bR.frozen
    gi_wp2
    have hK' := (KeepsOthers.setCell W ⟨w.heap.size + 1, 0, none⟩ (.bool false)).same D _ hK rfl
    refine ⟨by simp, .inl ⟨_, _, rfl, run_takeDeferred hK', ?_⟩⟩
    have hc5 := cell_kept (World.cell?_setCell_same' W ⟨w.heap.size + 1, 0, none⟩ (.bool false) (by rw [hcr]; rfl)) (grownBy_putObj' _ D (.deferred none)) (fun r e => by cases e; exact ⟨_, hK', rfl⟩)
    refine ⟨.bool false, ?_, by rw [B_no hG.no], (hB.setCell (p := ⟨w.heap.size + 1, 0, none⟩) (by simp) _).trans (belowK_b (w := w) (Nat.le_refl _) _ D _ _ (by simp at hD; omega) hK' rfl rfl)⟩
    simp [results, Try.f52, go_sem, hc5]
  case stop =>
    rintro D c pre W hD hpre ⟨bR, ⟨rfl, hG⟩, hB⟩ hK
    have hcr := bR.cell
    gi_wp2
    refine ⟨by simp, .inl ⟨_, _, rfl, run_takeDeferred hK, ?_⟩⟩
    have hc5 := cell_kept hcr (grownBy_putObj' _ D (.deferred none)) (fun r e => by cases e; exact ⟨_, hK, rfl⟩)
    refine ⟨.bool true, ?_, by rw [B_yes (hG.prefix hpre)], hB.trans (belowK_b (w := w) (Nat.le_refl _) W D _ _ (by simp at hD; omega) hK rfl rfl)⟩
    simp [results, Try.f52, go_sem, hc5]

end Go.Proofs.Ytaogkdhloogmhaa
namespace Go.Proofs.Ytaogkdhloogmhaa
open Go.RowKit
set_option linter.unusedVariables false

/-- The first k clauses are true. -/
def TrTo (ts : List Int) (zss : List (List Int)) (k : Nat) : Prop := ∀ i, i < k → ClT ts (zss.getD i [])
theorem TrTo.zero (ts : List Int) (zss : List (List Int)) : TrTo ts zss 0 := fun i h => absurd h (Nat.not_lt_zero _)
theorem TrTo.step {ts : List Int} {zss : List (List Int)} {k : Nat} (h : TrTo ts zss k) (g : ClT ts (zss.getD k [])) : TrTo ts zss (k + 1) := fun i hi => by
  by_cases e : i = k
  · subst e; exact g
  · exact h i (by omega)
def FstNo (ts : List Int) (zss : List (List Int)) (k : Nat) : Prop := k < zss.length ∧ TrTo ts zss k ∧ ¬ ClT ts (zss.getD k [])
open Classical in
/-- The place of the first clause that is not true; -1 if all are. -/
noncomputable def fF (ts : List Int) (zss : List (List Int)) : Int := if h : ∃ k, FstNo ts zss k then (Classical.choose h : Nat) else -1
theorem fF_at {ts : List Int} {zss : List (List Int)} {k : Nat} (h : FstNo ts zss k) : fF ts zss = k := by
  have hex : ∃ k, FstNo ts zss k := ⟨k, h⟩
  unfold fF
  rw [dif_pos hex]
  have hs := Classical.choose_spec hex
  generalize Classical.choose hex = j at *
  have : ¬ j < k := fun g => hs.2.2 (h.2.1 j g)
  have : ¬ k < j := fun g => h.2.2 (hs.2.1 k g)
  omega
theorem fF_all {ts : List Int} {zss : List (List Int)} {k : Nat} (hk : zss.length ≤ k) (h : TrTo ts zss k) : fF ts zss = -1 := by
  unfold fF
  rw [dif_neg]
  rintro ⟨j, g⟩
  exact g.2.2 (h j (by have := g.1; omega))
open Classical in
/-- What CnfFault answers. -/
noncomputable def fC (vars : Int) (zss : List (List Int)) (ts : List Int) : Int := if 400 < ts.length then 0 else if CnfR vars zss ∧ InRise 1 vars ts then fF ts zss else -2
theorem fC_long {vars : Int} {zss : List (List Int)} {ts : List Int} (h : 400 < ts.length) : fC vars zss ts = 0 := by unfold fC; rw [if_pos h]
theorem fC_no {vars : Int} {zss : List (List Int)} {ts : List Int} (h : ¬ 400 < ts.length) (g : ¬ (CnfR vars zss ∧ InRise 1 vars ts)) : fC vars zss ts = -2 := by unfold fC; rw [if_neg h, if_neg g]
theorem fC_yes {vars : Int} {zss : List (List Int)} {ts : List Int} (h : ¬ 400 < ts.length) (g : CnfR vars zss ∧ InRise 1 vars ts) : fC vars zss ts = fF ts zss := by unfold fC; rw [if_neg h, if_pos g]

set_option maxRecDepth 100000 in
set_option maxHeartbeats 4000000 in
/-- impl.CnfFault. -/
theorem icf_any (vars : Int) (sl : Option Addr) (cap : Nat) (cs : List LCl) (sl2 : Option Addr) (cap2 : Nat) (ts : List Int) (w : World) (hn : cs.length ≤ maxLen) (hm : ts.length ≤ maxLen) (hz : Cls w sl cs) (ht : Ints w sl2 ts) :
    Calls Try.prog 30 #[CV vars sl cs.length cap, .slice sl2 ts.length cap2] w fun e w' => e = .returned (.int .i64 (fC vars (bareC cs) ts)) ∧ Below w.heap.size w w' := by
  have CA := Lib.hid (CnfAt.new w vars sl cs.length cap)
  have B0 := Lib.hid (bA0 w (.cells #[.int .i64 vars, .slice sl cs.length cap] 33))
  have HB := Lib.hid (bareC_length cs)
  by_cases c1 : 400 < ts.length
  · rw [fC_long c1]
    have c1' : (400 : Int) < (ts.length : Int) := by omega
    clear hz ht HB
    unfold maxLen at hm
    generalize cs.length = n at *
    generalize ts.length = m at *
    go_enter Try.func30, Try.ntmps30
    go_wp2
    go_ret
    exact ⟨rfl, B0.out⟩
  have c1' : ¬ (400 : Int) < (ts.length : Int) := by omega
  have E1 : Hid (∀ W, Below w.heap.size w W → Calls Try.prog 51 #[CV vars sl cs.length cap] W fun e w' => e = .returned (.bool (B (CnfR vars (bareC cs)))) ∧ Below W.heap.size W w') := fun W hW => icr_any vars sl cap cs W hn (hz.below hW)
  have E2 : Hid (∀ W, Below w.heap.size w W → Calls Try.prog 35 #[.slice sl2 ts.length cap2, .int .i64 1, .int .i64 vars] W fun e w' => e = .returned (.bool (B (InRise 1 vars ts))) ∧ Below W.heap.size W w') := fun W hW => rw_any 1 vars sl2 cap2 ts W hm (ht.below hW)
  unfold maxLen at hm hn
  cases hb : B (CnfR vars (bareC cs)) with
  | false =>
    rw [fC_no c1 (fun g => B_false hb g.1)]
    rw [hb] at E1
    clear hb hz ht HB E2
    generalize cs.length = n at *
    generalize ts.length = m at *
    go_enter Try.func30, Try.ntmps30
    go_wp2_with fail
    refine (E1.out _ B0.out).mono ?_
    rintro e w1 ⟨rfl, b1⟩
    have D1 := Lib.hid (bT B0.out b1)
    clear b1 E1
    go_wp2
    go_ret
    exact ⟨rfl, D1.out⟩
  | true =>
    rw [hb] at E1
    cases hc : B (InRise 1 vars ts) with
    | false =>
      rw [fC_no c1 (fun g => B_false hc g.2)]
      rw [hc] at E2
      clear hb hc hz ht HB
      generalize cs.length = n at *
      generalize ts.length = m at *
      go_enter Try.func30, Try.ntmps30
      go_wp2_with fail
      refine (E1.out _ B0.out).mono ?_
      rintro e w1 ⟨rfl, b1⟩
      have D1 := Lib.hid (bT B0.out b1)
      have TA := CA.out.below b1
      obtain ⟨t0, t1⟩ := TA.cells
      have tl := TA.lt
      clear b1 E1 TA
      go_wp2_with fail
      refine (E2.out _ D1.out).mono ?_
      rintro e w2 ⟨rfl, b2⟩
      have D2 := Lib.hid (bT D1.out b2)
      clear b2 E2
      go_wp2
      go_ret
      exact ⟨rfl, D2.out⟩
    | true =>
      rw [hc] at E2
      have CR := Lib.hid (B_true hb)
      have FV := Lib.hid (fC_yes c1 ⟨B_true hb, B_true hc⟩)
      have YY := Lib.hid (show ∀ k, cs.length ≤ k → TrTo ts (bareC cs) k → fC vars (bareC cs) ts = -1 from fun k hk h => FV.out.trans (fF_all (by rw [HB.out]; exact hk) h))
      have NN := Lib.hid (show ∀ k, k < cs.length → TrTo ts (bareC cs) k → ¬ ClT ts ((bareC cs).getD k []) → fC vars (bareC cs) ts = k from fun k hk h g => FV.out.trans (fF_at ⟨by rw [HB.out]; exact hk, h, g⟩))
      have HZ := Lib.hid hz
      have HT := Lib.hid ht
      have HM := Lib.hid (show ts.length ≤ 1048576 by omega)
      have HC := Lib.hid (show ∀ r ∈ cs, r.2.length ≤ 1048576 from fun r hr => by
        obtain ⟨k, h, rfl⟩ := List.getElem_of_mem hr
        have := (CR.out.2.2 k (by rw [HB.out]; exact h)).1
        rw [bareC_get h] at this
        omega)
      clear hz ht HB hb hc FV CR
      generalize hN : cs.length = n at *
      have HN := Lib.hid hN
      clear hN
      have EK : Hid (∀ r ∈ cs, ∀ s1 k1 W, Below w.heap.size w W → Ints W s1 r.2 → Calls Try.prog 52 #[.slice s1 r.2.length k1, .slice sl2 ts.length cap2] W fun e w' => e = .returned (.bool (B (ClT ts r.2))) ∧ Below W.heap.size W w') := fun r h s1 k1 W hW i => clt_any s1 k1 r.2 sl2 cap2 ts W (HC.out r h) HM.out i (HT.out.below hW)
      clear HT HM HC
      generalize ts.length = m at *
      go_enter Try.func30, Try.ntmps30
      go_wp2_with fail
      refine (E1.out _ B0.out).mono ?_
      rintro e w1 ⟨rfl, b1⟩
      have D1 := Lib.hid (bT B0.out b1)
      have TA := CA.out.below b1
      obtain ⟨t0, t1⟩ := TA.cells
      have tl := TA.lt
      have CA1 := Lib.hid TA
      clear b1 E1 TA CA
      go_wp2_with fail
      refine (E2.out _ D1.out).mono ?_
      rintro e w2 ⟨rfl, b2⟩
      have D2 := Lib.hid (bT D1.out b2)
      have TA := CA1.out.below b2
      clear t0 t1 tl
      obtain ⟨t0, t1⟩ := TA.cells
      have tl := TA.lt
      have CA2 := Lib.hid TA
      clear b2 E2 TA CA1 D1
      go_wp2
      clear t0 t1 tl
      go_loopw [23] (fun i wr => ∃ k : Nat, i = .int .i64 k ∧ k ≤ n ∧ Hid (TrTo ts (bareC cs) k) ∧ Hid (Below w2.heap.size w2 wr)) (fun i _ => n - (intOf i).toNat)
      case atStart => exact ⟨0, rfl, Nat.zero_le _, TrTo.zero _ _, Below.refl _ _⟩
      case round =>
        obtain ⟨k, rfl, hk, IT, H2⟩ := hrel
        have hk0 : (0 : Int) ≤ (k : Int) := by omega
        have DW := Lib.hid (bT D2.out H2.out)
        by_cases g1 : k < n
        · have g1' : (k : Int) < (n : Int) := by omega
          have hlt : k < cs.length := by rw [HN.out]; exact g1
          obtain ⟨c, o, rfl, Z0⟩ := HZ.out.at hlt
          have hc := (Z0.below DW.out).2 k hlt
          obtain ⟨s1, k1, v1, i1, l1⟩ := (HZ.out.each cs[k] (List.getElem_mem hlt)).below DW.out
          rw [v1] at hc
          have E := Lib.hid (EK.out cs[k] (List.getElem_mem hlt) s1 k1 wr DW.out i1)
          have BG := Lib.hid (bareC_get hlt)
          cases hb : B (ClT ts cs[k].2) with
          | true =>
            rw [hb] at E
            have IT2 := Lib.hid (IT.out.step (by rw [BG.out]; exact B_true hb))
            clear hb IT i1 l1 Z0 v1 BG
            generalize cs[k].2.length = q at *
            clear hlt EK
            go_wp2_with fail
            refine E.out.mono ?_
            rintro e w5 ⟨rfl, b5⟩
            have D5 := Lib.hid (bT H2.out b5)
            clear b5 E
            go_wp2
            go_roundw
            case rel => exact ⟨k + 1, by go_num, by omega, IT2, D5⟩
            case measure => simp [intOf]; omega
          | false =>
            rw [hb] at E
            have NO := Lib.hid (NN.out k g1 IT.out (by rw [BG.out]; exact B_false hb))
            clear hb IT i1 l1 Z0 v1 BG
            generalize cs[k].2.length = q at *
            clear hlt EK
            go_wp2_with fail
            refine E.out.mono ?_
            rintro e w5 ⟨rfl, b5⟩
            have D5 := Lib.hid (bT DW.out b5)
            clear b5 E
            go_wp2
            go_ret
            exact ⟨by rw [NO.out]; rfl, D5.out⟩
        · have g1' : ¬ (k : Int) < (n : Int) := by omega
          have YES := Lib.hid (YY.out k (by omega) IT.out)
          clear IT EK
          go_wp2
          go_ret
          exact ⟨by rw [YES.out]; rfl, DW.out⟩

set_option maxRecDepth 100000 in
set_option maxHeartbeats 1000000 in
/-- impl.CnfTrue. -/
theorem ict_any (vars : Int) (sl : Option Addr) (cap : Nat) (cs : List LCl) (sl2 : Option Addr) (cap2 : Nat) (ts : List Int) (w : World) (hn : cs.length ≤ maxLen) (hm : ts.length ≤ maxLen) (hz : Cls w sl cs) (ht : Ints w sl2 ts) :
    Calls Try.prog 8 #[CV vars sl cs.length cap, .slice sl2 ts.length cap2] w fun e w' => e = .returned (.bool (fC vars (bareC cs) ts == -1)) ∧ Below w.heap.size w w' := by
  have B0 := Lib.hid (bA0 w (.cells #[.int .i64 vars, .slice sl cs.length cap] 33))
  have E1 := Lib.hid (icf_any vars sl cap cs sl2 cap2 ts _ hn hm (hz.below B0.out) (ht.below B0.out))
  clear hz ht hn hm
  generalize fC vars (bareC cs) ts = f at *
  generalize cs.length = n at *
  generalize ts.length = m at *
  go_enter Try.func8, Try.ntmps8
  go_wp2_with fail
  refine E1.out.mono ?_
  rintro e w1 ⟨rfl, b1⟩
  have D1 := Lib.hid (bT B0.out b1)
  clear b1 E1
  go_wp2
  go_ret
  exact ⟨rfl, D1.out⟩

end Go.Proofs.Ytaogkdhloogmhaa
namespace Go.Proofs.Ytaogkdhloogmhaa
open Go.RowKit
set_option linter.unusedVariables false

theorem lv_pos {z : Int} (h : 0 < z) (h2 : z ≤ 100000) : lv z = z := by
  unfold lv wrap64
  rw [Int.max_def]; split <;> omega
theorem lv_neg {z : Int} (h : 0 < z) (h2 : z ≤ 100000) : lv (-z) = z := by
  unfold lv wrap64
  rw [Int.max_def]; split <;> omega
theorem nb_mem {V : List LPl} {e : LNb} (h : e ∈ nbF 0 V) : ∃ m, ∃ hm : m < V.length, e = (V[m], (m : Int) + 1) := by
  obtain ⟨m, hm, rfl⟩ := List.getElem_of_mem h
  rw [nbF_len] at hm
  refine ⟨m, hm, ?_⟩
  rw [nbF_at V 0 m hm]
  simp
theorem nb_in {V : List LPl} (m : Nat) (hm : m < V.length) : (V[m], (m : Int) + 1) ∈ nbF 0 V := by
  have := List.getElem_mem (l := nbF 0 V) (n := m) (by rw [nbF_len]; exact hm)
  rw [nbF_at V 0 m hm] at this
  simpa using this
theorem nb_up (V : List LPl) : (nbF 0 V).Pairwise (fun x y => x.2 < y.2) := by
  rw [List.pairwise_iff_getElem]
  intro i j hi hj hij
  rw [nbF_len] at hi hj
  rw [nbF_at V 0 i hi, nbF_at V 0 j hj]
  show (0 : Int) + i + 1 < 0 + j + 1
  omega
theorem tr_mem (pl V : List LPl) (v : Int) : v ∈ trK pl V V.length ↔ ∃ m, ∃ hm : m < V.length, v = (m : Int) + 1 ∧ V[m] ∈ pl := by
  unfold trK
  rw [List.mem_map]
  constructor
  · rintro ⟨m, hm, rfl⟩
    rw [List.mem_filter, List.mem_range] at hm
    have := B_true hm.2
    refine ⟨m, hm.1, rfl, ?_⟩
    simpa [hm.1] using this
  · rintro ⟨m, hm, rfl, h⟩
    refine ⟨m, ?_, rfl⟩
    rw [List.mem_filter, List.mem_range]
    exact ⟨hm, B_yes (by simpa [hm] using h)⟩
theorem twoS_mem : ∀ (l : List LNb), l.Pairwise (fun x y => x.2 < y.2) → ∀ zs ∈ twoS l, ∃ x ∈ l, ∃ y ∈ l, x.2 < y.2 ∧ x.1.1 = y.1.1 ∧ zs = [-x.2, -y.2]
  | [], _, zs, h => by simp [twoS] at h
  | x :: r, hp, zs, h => by
    rw [List.pairwise_cons] at hp
    unfold twoS at h
    rcases List.mem_append.1 h with h | h
    · obtain ⟨y, hy, rfl⟩ := List.mem_map.1 h
      unfold ofId at hy
      rw [List.mem_filter] at hy
      have e : y.1.1 = x.1.1 := by simpa using hy.2
      exact ⟨x, by simp, y, by simp [hy.1], hp.1 y hy.1, e.symm, rfl⟩
    · obtain ⟨a, ha, b, hb, h1⟩ := twoS_mem r hp.2 zs h
      exact ⟨a, by simp [ha], b, by simp [hb], h1⟩
theorem rise_ne {lo hi : Int} {zs : List Int} (h : InRise lo hi zs) : zs.Pairwise (· ≠ ·) := by
  rw [List.pairwise_iff_getElem]
  intro i j hi' hj hij
  have := rise_lt zs lo hi h i j hij hj
  simp [hi', hj] at this
  intro e
  rw [e] at this
  omega
theorem dom_ne (rs : List LSt) (ps : List LPr) (id top : Int) (h : TabR rs ps) : (rs.flatMap (domF id top)).Pairwise (· ≠ ·) := by
  by_cases hm : id ∈ idsL rs
  · obtain ⟨k, hk, ep, hid⟩ := pos_at rs id hm
    have hu : ∀ i (h : i < rs.length), i ≠ k → rs[i].1 ≠ id := fun i hi hne e => by
      have r := rise_ne h.2.2.1
      rw [List.pairwise_iff_getElem] at r
      rcases Nat.lt_or_gt_of_ne hne with g | g
      · exact r i k (by simpa [idsL] using hi) (by simpa [idsL] using hk) g (by rw [idsL_at rs i _ hi, idsL_at rs k _ hk, e, hid])
      · exact r k i (by simpa [idsL] using hk) (by simpa [idsL] using hi) g (by rw [idsL_at rs i _ hi, idsL_at rs k _ hk, e, hid])
    rw [flat_one id top rs k hk hid hu]
    exact (rise_ne (h.2.1 _ (List.getElem_mem hk)).2.2).filter _
  · rw [flat_none id top rs hm]; exact List.Pairwise.nil
theorem plF_ne {rs : List LSt} {ps : List LPr} (top : Int) (ids : List Int) (h : TabR rs ps) (hi : ids.Pairwise (· < ·)) : (plF rs top ids).Pairwise (· ≠ ·) := by
  unfold plF
  rw [List.pairwise_flatMap]
  refine ⟨fun id _ => ?_, hi.imp (fun {a b} hab x hx y hy e => ?_)⟩
  · unfold chF
    rw [List.pairwise_map]
    exact (dom_ne rs ps id top h).imp (fun {a b} hab e => hab (by injection e))
  · unfold chF at hx hy
    obtain ⟨c, _, rfl⟩ := List.mem_map.1 hx
    obtain ⟨d, _, rfl⟩ := List.mem_map.1 hy
    injection e with e1 e2
    omega
theorem one_id {rs : List LSt} {ps : List LPr} {pl : List LPl} (h : IdsR rs ps (pidsL pl)) {p q : LPl} (hp : p ∈ pl) (hq : q ∈ pl) (e : p.1 = q.1) : p = q := by
  have hd := ids_pair h
  unfold pidsL at hd
  rw [List.pairwise_map, List.pairwise_iff_getElem] at hd
  obtain ⟨i, hi, rfl⟩ := List.getElem_of_mem hp
  obtain ⟨j, hj, rfl⟩ := List.getElem_of_mem hq
  rcases Nat.lt_trichotomy i j with g | g | g
  · have := hd i j hi hj g; omega
  · subst g; rfl
  · have := hd j i hj hi g; omega
theorem may_both {rs : List LSt} {ps : List LPr} {top : Int} {pl : List LPl} (h : PlanOk rs ps top pl) {p q : LPl} (hp : p ∈ pl) (hq : q ∈ pl) (hne : p ≠ q) : mayL ps p.1 p.2 q.1 q.2 = true := by
  have hm := h.may
  rw [List.pairwise_iff_getElem] at hm
  obtain ⟨i, hi, rfl⟩ := List.getElem_of_mem hp
  obtain ⟨j, hj, rfl⟩ := List.getElem_of_mem hq
  rcases Nat.lt_trichotomy i j with g | g | g
  · exact hm i j hi hj g
  · subst g; exact absurd rfl hne
  · rw [may_sym rs ps h.ids.2.1]; exact hm j i hj hi g
/-- One of two is not in the plan: the clause of both is true. -/
theorem two_true {ts : List Int} {x y : Int} (hx : 0 < x ∧ x ≤ 100000) (hy : 0 < y ∧ y ≤ 100000) (h : ¬ (x ∈ ts ∧ y ∈ ts)) : ClT ts [-x, -y] := by
  by_cases h1 : x ∈ ts
  · exact ⟨-y, by simp, by rw [lv_neg hy.1 hy.2]; exact ⟨fun g => absurd ⟨h1, g⟩ h, fun g => by omega⟩⟩
  · exact ⟨-x, by simp, by rw [lv_neg hx.1 hx.2]; exact ⟨fun g => absurd g h1, fun g => by omega⟩⟩
/-- Every clause of a table is true of a right plan. -/
theorem plan_true {rs : List LSt} {ps : List LPr} {top : Int} {pl : List LPl} (h : PlanOk rs ps top pl) : ∀ zs ∈ cnA rs ps top (pidsL pl), ClT (trK pl (plF rs top (pidsL pl)) (plF rs top (pidsL pl)).length) zs := by
  have hV : (plF rs top (pidsL pl)).length ≤ 1152 := by
    have := plF_le top (pidsL pl) h.ids.2.1
    have := ids_few h.ids
    omega
  have hne := plF_ne top (pidsL pl) h.ids.2.1 (ids_pair h.ids)
  have hin : ∀ p ∈ pl, p ∈ plF rs top (pidsL pl) := fun p hp => by
    unfold plF chF
    rw [List.mem_flatMap]
    exact ⟨p.1, List.mem_map.2 ⟨p, hp, rfl⟩, List.mem_map.2 ⟨p.2, h.dom p hp, rfl⟩⟩
  intro zs hz
  rw [cnA_spec top h.ids] at hz
  generalize plF rs top (pidsL pl) = V at *
  rw [List.pairwise_iff_getElem] at hne
  rcases List.mem_append.1 hz with hz | hz
  · obtain ⟨id, hid, rfl⟩ := List.mem_map.1 hz
    obtain ⟨p, hp, rfl⟩ := List.mem_map.1 hid
    obtain ⟨m, hm, e⟩ := List.getElem_of_mem (hin p hp)
    refine ⟨(m : Int) + 1, ?_, ?_⟩
    · unfold ownA ofId
      rw [List.mem_map]
      exact ⟨(V[m], (m : Int) + 1), List.mem_filter.2 ⟨nb_in m hm, by simp [e]⟩, rfl⟩
    · rw [lv_pos (by omega) (by omega)]
      exact ⟨fun _ => by omega, fun _ => (tr_mem pl V _).2 ⟨m, hm, rfl, by rw [e]; exact hp⟩⟩
  rcases List.mem_append.1 hz with hz | hz
  · obtain ⟨x, hx, y, hy, hxy, hid, rfl⟩ := twoS_mem _ (nb_up V) zs hz
    obtain ⟨a, ha, rfl⟩ := nb_mem hx
    obtain ⟨b, hb, rfl⟩ := nb_mem hy
    dsimp only at hxy hid ⊢
    refine two_true ⟨by omega, by omega⟩ ⟨by omega, by omega⟩ (fun ⟨g1, g2⟩ => ?_)
    obtain ⟨a', ha', e1, p1⟩ := (tr_mem pl V _).1 g1
    obtain ⟨b', hb', e2, p2⟩ := (tr_mem pl V _).1 g2
    obtain rfl : a' = a := by omega
    obtain rfl : b' = b := by omega
    exact hne a' b' ha hb (by omega) (one_id h.ids p1 p2 hid)
  · obtain ⟨q, hq, hz⟩ := List.mem_flatMap.1 hz
    unfold besS at hz
    obtain ⟨x, hx, hz⟩ := List.mem_flatMap.1 hz
    obtain ⟨y, hy, hz⟩ := List.mem_flatMap.1 hz
    split at hz
    · rename_i hc
      obtain ⟨c1, c2, c3⟩ := hc
      rw [List.mem_singleton] at hz
      subst hz
      obtain ⟨a, ha, rfl⟩ := nb_mem hx
      obtain ⟨b, hb, rfl⟩ := nb_mem hy
      dsimp only at c1 c2 c3 ⊢
      refine two_true ⟨by omega, by omega⟩ ⟨by omega, by omega⟩ (fun ⟨g1, g2⟩ => ?_)
      obtain ⟨a', ha', e1, p1⟩ := (tr_mem pl V _).1 g1
      obtain ⟨b', hb', e2, p2⟩ := (tr_mem pl V _).1 g2
      obtain rfl : a' = a := by omega
      obtain rfl : b' = b := by omega
      have hlt : q.1 < q.2.1 := (h.ids.2.1.2.2.2.1 q hq).1
      have := may_both h p1 p2 (fun e => by rw [e] at c1; omega)
      rw [c1, c2] at this
      rw [this] at c3
      cases c3
    · simp at hz

end Go.Proofs.Ytaogkdhloogmhaa
namespace Go.Proofs.Ytaogkdhloogmhaa
open Go.RowKit
set_option linter.unusedVariables false

theorem fm_len {α β : Type} (f : α → List β) (m : Nat) : ∀ l : List α, (∀ x ∈ l, (f x).length ≤ m) → (l.flatMap f).length ≤ l.length * m := by
  intro l
  induction l with
  | nil => intro _; simp
  | cons x l ih =>
    intro h
    have h1 := h x (by simp)
    have h2 := ih (fun y hy => h y (by simp [hy]))
    rw [List.flatMap_cons, List.length_append, List.length_cons, Nat.add_mul]
    omega
end Go.Proofs.Ytaogkdhloogmhaa
namespace Go.Proofs.Ytaogkdhloogmhaa
open Go.RowKit
set_option linter.unusedVariables false

theorem dom_8 (rs : List LSt) (ps : List LPr) (id top : Int) (h : TabR rs ps) : (rs.flatMap (domF id top)).length ≤ 8 := by
  by_cases hm : id ∈ idsL rs
  · obtain ⟨k, hk, ep, hid⟩ := pos_at rs id hm
    have hu : ∀ i (h : i < rs.length), i ≠ k → rs[i].1 ≠ id := fun i hi hne e => by
      have r := rise_ne h.2.2.1
      rw [List.pairwise_iff_getElem] at r
      rcases Nat.lt_or_gt_of_ne hne with g | g
      · exact r i k (by simpa [idsL] using hi) (by simpa [idsL] using hk) g (by rw [idsL_at rs i _ hi, idsL_at rs k _ hk, e, hid])
      · exact r k i (by simpa [idsL] using hk) (by simpa [idsL] using hi) g (by rw [idsL_at rs i _ hi, idsL_at rs k _ hk, e, hid])
    rw [flat_one id top rs k hk hid hu]
    exact Nat.le_trans (List.length_filter_le _ _) (h.2.1 _ (List.getElem_mem hk)).2.1.2
  · rw [flat_none id top rs hm]; simp
theorem plF_96 {rs : List LSt} {ps : List LPr} (top : Int) (ids : List Int) (h : IdsR rs ps ids) : (plF rs top ids).length ≤ 96 := by
  have h1 : ∀ id ∈ ids, (chF rs top id).length ≤ 8 := fun id _ => by
    unfold chF; rw [List.length_map]; exact dom_8 rs ps id top h.2.1
  have := fm_len (chF rs top) 8 ids h1
  have := ids_few h
  unfold plF
  omega
theorem twoF_8 : ∀ zs : List Int, zs.length ≤ 8 → (twoF zs).length ≤ 8 * zs.length
  | [], _ => by simp [twoF]
  | x :: r, h => by
    simp only [List.length_cons] at h ⊢
    have := twoF_8 r (by omega)
    unfold twoF
    rw [List.length_append, List.length_map]
    omega
theorem besF_8 (ps : List LPr) (A C : List LNb) (ha : A.length ≤ 8) (hc : C.length ≤ 8) : (besF ps A C).length ≤ 64 := by
  have h1 : ∀ x ∈ A, (C.flatMap fun y => if mayL ps x.1.1 x.1.2 y.1.1 y.1.2 = true then [] else [[-x.2, -y.2]]).length ≤ 8 := fun x _ => by
    have := fm_len (fun y : LNb => if mayL ps x.1.1 x.1.2 y.1.1 y.1.2 = true then [] else [[-x.2, -y.2]]) 1 C (fun y _ => by split <;> simp)
    omega
  have := fm_len _ 8 A h1
  unfold besF
  omega
theorem nbs_8 (rs : List LSt) (ps : List LPr) (top : Int) (h : TabR rs ps) : ∀ (ids : List Int) (last : Int), ∀ b ∈ nbsF last (ids.map (chF rs top)), b.length ≤ 8 := by
  intro ids
  induction ids with
  | nil => intro last b hb; simp [nbsF] at hb
  | cons x r ih =>
    intro last b hb
    simp only [List.map_cons, nbsF, List.mem_cons] at hb
    rcases hb with rfl | hb
    · rw [nbF_len]; unfold chF; rw [List.length_map]; exact dom_8 rs ps x top h
    · exact ih _ b hb
theorem cnA_4000 {rs : List LSt} {ps : List LPr} (top : Int) {ids : List Int} (h : IdsR rs ps ids) : (cnA rs ps top ids).length ≤ 4000 := by
  unfold cnA
  rw [B_yes h, if_pos rfl]
  unfold cnfI
  have hb := nbs_8 rs ps top h.2.1 ids 0
  have hl : (nbsF 0 (ids.map (chF rs top))).length = ids.length := by rw [nbsF_len, List.length_map]
  generalize nbsF 0 (ids.map (chF rs top)) = bs at *
  have h12 := ids_few h
  have h40 := h.2.1.1.2.2
  have h1 := fm_len (fun b : List LNb => twoF (b.map fun e => e.2)) 64 bs (fun b hb' => by
    have := hb b hb'
    have := twoF_8 (b.map fun e => e.2) (by rw [List.length_map]; exact this)
    rw [List.length_map] at this
    omega)
  have hg : ∀ i, (bs.getD i []).length ≤ 8 := fun i => by
    by_cases hi : i < bs.length
    · simp only [List.getD_eq_getElem?_getD, List.getElem?_eq_getElem hi, Option.getD_some]; exact hb _ (List.getElem_mem hi)
    · simp [List.getD_eq_getElem?_getD, List.getElem?_eq_none (by omega : bs.length ≤ i)]
  have h2 := fm_len (besI ps ids bs) 64 ps (fun p _ => by
    unfold besI
    split
    · exact besF_8 ps _ _ (hg _) (hg _)
    · simp)
  simp only [List.length_append, List.length_map]
  omega
theorem good_two {vars x y : Int} (hx : 1 ≤ x ∧ x ≤ vars) (hy : 1 ≤ y ∧ y ≤ vars) (hv : vars ≤ 96) (hne : x ≠ y) : ClR vars [-x, -y] := by
  refine ⟨by simp, fun z hz => ?_, ?_⟩
  · simp only [List.mem_cons, List.not_mem_nil, or_false] at hz
    rcases hz with rfl | rfl
    · rw [lv_neg (by omega) (by omega)]; exact hx
    · rw [lv_neg (by omega) (by omega)]; exact hy
  · simp only [List.map_cons, List.map_nil]
    rw [lv_neg (by omega) (by omega), lv_neg (by omega) (by omega)]
    simp [hne]
/-- The clauses of a table are right. -/
theorem cnA_right {rs : List LSt} {ps : List LPr} (top : Int) {ids : List Int} (h : IdsR rs ps ids) : CnfR (cnN rs ps top ids : Nat) (cnA rs ps top ids) := by
  have hN : cnN rs ps top ids = (plF rs top ids).length := by unfold cnN; rw [B_yes h]; rfl
  have h96 := plF_96 top ids h
  have h4 := cnA_4000 top h
  have h8 : ∀ id, (ownA (plF rs top ids) id).length ≤ 96 := fun id => by
    unfold ownA ofId
    rw [List.length_map]
    exact Nat.le_trans (List.length_filter_le _ _) (by rw [nbF_len]; exact h96)
  have key : ∀ zs ∈ cnA rs ps top ids, ClR (cnN rs ps top ids : Nat) zs := by
    intro zs hz
    have hrow : ∀ b ∈ nbsF 0 (ids.map (chF rs top)), b.length ≤ 8 := nbs_8 rs ps top h.2.1 ids 0
    have hflat : (nbsF 0 (ids.map (chF rs top))).flatten = nbF 0 (plF rs top ids) := by rw [nbsF_flat]; rfl
    by_cases hown : zs ∈ (nbsF 0 (ids.map (chF rs top))).map (fun b => b.map fun e => e.2)
    · obtain ⟨b, hb, rfl⟩ := List.mem_map.1 hown
      have hsub : List.Sublist b (nbF 0 (plF rs top ids)) := by rw [← hflat]; exact List.sublist_flatten_of_mem hb
      have hup : (b.map fun e => e.2).Pairwise (· < ·) := by rw [List.pairwise_map]; exact (nb_up _).sublist hsub
      have hin : ∀ z ∈ (b.map fun e => e.2), 1 ≤ z ∧ z ≤ ((plF rs top ids).length : Int) := fun z hz => by
        obtain ⟨e, he, rfl⟩ := List.mem_map.1 hz
        obtain ⟨m, hm, rfl⟩ := nb_mem (hsub.subset he)
        exact ⟨by show (1 : Int) ≤ (m : Int) + 1; omega, by show (m : Int) + 1 ≤ _; omega⟩
      refine ⟨by rw [List.length_map]; have := hrow b hb; omega, fun z hz => ?_, ?_⟩
      · have := hin z hz
        rw [lv_pos (by omega) (by omega), hN]; exact this
      · have e : (b.map fun e => e.2).map lv = b.map fun e => e.2 := by
          rw [List.map_congr_left (g := id) (fun z hz => by have := hin z hz; rw [lv_pos (by omega) (by omega)]; rfl), List.map_id]
        rw [e]
        exact hup.imp (fun {a c} hab e => by omega)
    · have hz2 := hz
      unfold cnA at hz2
      rw [B_yes h, if_pos rfl] at hz2
      rw [cnA_spec top h] at hz
      have hz3 : zs ∈ twoS (nbF 0 (plF rs top ids)) ++ ps.flatMap (besS ps (nbF 0 (plF rs top ids))) := by
        unfold cnfI at hz2
        rcases List.mem_append.1 hz2 with g | g
        · exact absurd g hown
        · have e1 := cnf_same ps ids (nbsF 0 (ids.map (chF rs top))) (ofIds_ch rs top ids 0) ((ids_pair h).imp (fun {a b} hab e => by omega))
          unfold cnfI cnfS at e1
          rw [hflat] at e1
          have e2 := List.append_inj_right e1 (by rw [List.length_map, List.length_map, nbsF_len, List.length_map])
          rw [← e2]; exact g
      rw [hN]
      rcases List.mem_append.1 hz3 with hz3 | hz3
      · obtain ⟨x, hx, y, hy, hxy, _, rfl⟩ := twoS_mem _ (nb_up _) zs hz3
        obtain ⟨a, ha, rfl⟩ := nb_mem hx
        obtain ⟨b, hb, rfl⟩ := nb_mem hy
        dsimp only at hxy ⊢
        exact good_two ⟨by omega, by omega⟩ ⟨by omega, by omega⟩ (by omega) (by omega)
      · obtain ⟨q, hq, hz3⟩ := List.mem_flatMap.1 hz3
        unfold besS at hz3
        obtain ⟨x, hx, hz3⟩ := List.mem_flatMap.1 hz3
        obtain ⟨y, hy, hz3⟩ := List.mem_flatMap.1 hz3
        split at hz3
        · rename_i hc
          rw [List.mem_singleton] at hz3
          subst hz3
          obtain ⟨a, ha, rfl⟩ := nb_mem hx
          obtain ⟨b, hb, rfl⟩ := nb_mem hy
          obtain ⟨c1, c2, _⟩ := hc
          dsimp only at c1 c2 ⊢
          have hlt : q.1 < q.2.1 := (h.2.1.2.2.2.1 q hq).1
          refine good_two ⟨by omega, by omega⟩ ⟨by omega, by omega⟩ (by omega) (fun e => ?_)
          obtain rfl : a = b := by omega
          omega
        · simp at hz3
  refine ⟨⟨by omega, by rw [hN]; omega⟩, h4, fun i hi => ?_⟩
  simp only [List.getD_eq_getElem?_getD, List.getElem?_eq_getElem hi, Option.getD_some]
  exact key _ (List.getElem_mem hi)

end Go.Proofs.Ytaogkdhloogmhaa
namespace Go.Proofs.Ytaogkdhloogmhaa
open Go.RowKit
set_option linter.unusedVariables false

/-- The first i cells of a row of places hold the marks. -/
def MarkQ (w : World) (b s : Nat) (k : Int) (i : Nat) : Prop := ∃ vs : Array Value, w.heap[b]? = some (.cells vs 64) ∧ vs.size = s ∧ ∀ j, j < i → vs[j]? = some (.int .i64 (k + (j : Int)))
theorem MarkQ.step {w : World} {b s : Nat} {k : Int} {i : Nat} (h : MarkQ w b s k i) (hi : i < s) : MarkQ (w.setCell ⟨b, i, none⟩ (.int .i64 (k + (i : Int)))) b s k (i + 1) := by
  obtain ⟨vs, h1, h2, h3⟩ := h
  refine ⟨_, heap_setCell_same w b i vs 64 _ h1, by simp [h2], fun j hj => ?_⟩
  rw [Array.getElem?_setIfInBounds]
  by_cases e : i = j
  · subst e; simp [h2, hi]
  · rw [if_neg e]; exact h3 j (by omega)
theorem MarkQ.cell {w : World} {b s : Nat} {k : Int} {i : Nat} (h : MarkQ w b s k i) (j : Nat) (hj : j < s) : (∃ v, w.cell? ⟨b, j, none⟩ = some v) ∧ w.frozen? ⟨b, j, none⟩ = false := by
  obtain ⟨vs, h1, h2, h3⟩ := h
  exact ⟨⟨vs[j]'(by omega), by simp [World.cell?, h1, show j < vs.size by omega]⟩, by simp [World.frozen?, h1]⟩
theorem MarkQ.at {w : World} {b s : Nat} {k : Int} {i : Nat} (h : MarkQ w b s k i) (j : Nat) (hj : j < i) : w.cell? ⟨b, j, none⟩ = some (.int .i64 (k + (j : Int))) := by
  obtain ⟨vs, h1, h2, h3⟩ := h
  have := h3 j hj
  simp [World.cell?, h1, this]
theorem MarkQ.lt {w : World} {b s : Nat} {k : Int} {i : Nat} (h : MarkQ w b s k i) : b < w.heap.size := by
  obtain ⟨vs, h1, _⟩ := h
  exact (Array.getElem?_eq_some_iff.1 h1).1

/-- The first k are the same. -/
def SameTo (zs ys : List Int) (k : Nat) : Prop := ∀ i, i < k → zs.getD i 0 = ys.getD i 0
theorem SameTo.step {zs ys : List Int} {k : Nat} (h : SameTo zs ys k) (g : zs.getD k 0 = ys.getD k 0) : SameTo zs ys (k + 1) := fun i hi => by
  by_cases e : i = k
  · subst e; exact g
  · exact h i (by omega)
theorem SameTo.all {zs ys : List Int} {k : Nat} (h : SameTo zs ys k) (hl : zs.length = ys.length) (hk : zs.length ≤ k) : zs = ys := by
  apply List.ext_getElem hl
  intro i h1 h2
  have := h i (by omega)
  simpa [h1, h2] using this

set_option maxRecDepth 100000 in
set_option maxHeartbeats 1000000 in
/-- slices.Equal of numbers. -/
theorem eqz_any (sl : Option Addr) (cap : Nat) (zs : List Int) (sl2 : Option Addr) (cap2 : Nat) (ys : List Int) (w : World) (hn : zs.length ≤ 1048576) (hm : ys.length ≤ 1048576) (hz : Ints w sl zs) (hy : Ints w sl2 ys) :
    Calls Try.prog 36 #[.slice sl zs.length cap, .slice sl2 ys.length cap2] w fun e w' => e = .returned (.bool (B (zs = ys))) ∧ Below w.heap.size w w' := by
  by_cases hl : zs.length = ys.length
  · have YY := Lib.hid (show ∀ k, zs.length ≤ k → SameTo zs ys k → B (zs = ys) = true from fun k hk h => B_yes (h.all hl hk))
    have NN := Lib.hid (show ∀ k, zs.getD k 0 ≠ ys.getD k 0 → B (zs = ys) = false from fun k h => B_no (fun e => h (by rw [e])))
    have HZ := Lib.hid hz
    have HY := Lib.hid hy
    rw [← hl]
    have HLL := Lib.hid hl
    clear hz hy hm hl
    generalize hN : zs.length = n at *
    have HN := Lib.hid hN
    clear hN
    go_enter Try.func36, Try.ntmps36
    go_wp2
    go_loopw [13] (fun i wr => ∃ k : Nat, i = .int .i64 k ∧ k ≤ n ∧ Hid (SameTo zs ys k) ∧ Hid (Below w.heap.size w wr)) (fun i _ => n - (intOf i).toNat)
    case atStart => exact ⟨0, rfl, Nat.zero_le _, fun i h => absurd h (Nat.not_lt_zero _), Below.refl _ _⟩
    case round =>
      obtain ⟨k, rfl, hk, H1, H2⟩ := hrel
      have hk0 : (0 : Int) ≤ (k : Int) := by omega
      by_cases h1 : k < n
      · have h1' : (k : Int) < (n : Int) := by omega
        have hlt : k < zs.length := by rw [HN.out]; exact h1
        have hlt2 : k < ys.length := by rw [← HLL.out]; exact h1
        obtain ⟨c, o, rfl, ZI⟩ : ∃ c o, sl = some ⟨c, o, none⟩ ∧ IntsAt w c o zs := by
          rcases HZ.out with e | h
          · rw [e] at hlt; simp at hlt
          · exact h
        obtain ⟨c2, o2, rfl, YI⟩ : ∃ c o, sl2 = some ⟨c, o, none⟩ ∧ IntsAt w c o ys := by
          rcases HY.out with e | h
          · rw [e] at hlt2; simp at hlt2
          · exact h
        have hc := (H2.out.cell (p := ⟨c, o + k, none⟩) ZI.1).trans (ZI.2 k hlt)
        have hd := (H2.out.cell (p := ⟨c2, o2 + k, none⟩) YI.1).trans (YI.2 k hlt2)
        by_cases e : zs.getD k 0 = ys.getD k 0
        · have e' : (zs.getD k 0 != ys.getD k 0) = false := by rw [e]; simp
          have HS := Lib.hid (H1.out.step e)
          clear hlt hlt2 ZI YI e H1
          generalize zs.getD k 0 = z at *
          generalize ys.getD k 0 = y at *
          go_wp2
          go_quiet (fail)
          go_wp2
          go_roundw
          case rel => exact ⟨k + 1, by go_num, by omega, HS, below_drewN H2.out _⟩
          case measure => simp [intOf]; omega
        · have e' : (zs.getD k 0 != ys.getD k 0) = true := by simpa using e
          have HF := Lib.hid (NN.out k e)
          clear hlt hlt2 ZI YI e H1
          generalize zs.getD k 0 = z at *
          generalize ys.getD k 0 = y at *
          go_wp2
          go_quiet (fail)
          go_wp2
          go_ret
          exact ⟨by rw [HF.out]; rfl, below_drewN H2.out _⟩
      · have h1' : ¬ (k : Int) < (n : Int) := by omega
        have HE := Lib.hid (YY.out k (by omega) H1.out)
        go_wp2
        go_ret
        exact ⟨by rw [HE.out]; rfl, H2.out⟩
  · have hl' : ((zs.length : Int) != (ys.length : Int)) = true := by simpa using (show ¬ (zs.length : Int) = (ys.length : Int) by omega)
    rw [B_no (fun e => hl (by rw [e]))]
    clear hz hy hl
    generalize zs.length = n at *
    generalize ys.length = m at *
    go_enter Try.func36, Try.ntmps36
    go_wp2
    go_ret
    exact ⟨rfl, Below.refl _ _⟩

end Go.Proofs.Ytaogkdhloogmhaa
namespace Go.Proofs.Ytaogkdhloogmhaa
open Go.RowKit
set_option linter.unusedVariables false

/-- The places that the trues stand for. -/
def poP (qs : List LPl) (ts : List Int) : List LPl := ts.map fun v => qs.getD (v - 1).toNat (0, 0)
def PoOK (rs : List LSt) (ps : List LPr) (top : Int) (ids ts : List Int) : Prop := ts.length ≤ 400 ∧ IdsR rs ps ids ∧ InRise 1 (plF rs top ids).length ts ∧ pidsL (poP (plF rs top ids) ts) = ids
/-- What PlanOf answers. -/
noncomputable def poA (rs : List LSt) (ps : List LPr) (top : Int) (ids ts : List Int) : List LPl := if B (PoOK rs ps top ids ts) = true then poP (plF rs top ids) ts else []
theorem poA_no {rs : List LSt} {ps : List LPr} {top : Int} {ids ts : List Int} (h : ¬ PoOK rs ps top ids ts) : poA rs ps top ids ts = [] := by unfold poA; rw [B_no h]; rfl
theorem poA_yes {rs : List LSt} {ps : List LPr} {top : Int} {ids ts : List Int} (h : PoOK rs ps top ids ts) : poA rs ps top ids ts = poP (plF rs top ids) ts := by unfold poA; rw [B_yes h]; rfl
theorem poP_step (qs : List LPl) (ts : List Int) (k : Nat) (h : k < ts.length) : poP qs (ts.take (k + 1)) = poP qs (ts.take k) ++ [qs.getD (ts.getD k 0 - 1).toNat (0, 0)] := by
  unfold poP
  rw [List.take_succ_eq_append_getElem h, List.map_append]
  simp [h]
theorem pls_of {w : World} {sl : Option Addr} {pl : List LPl} {B : Nat} (h : pl = [] ∨ ∃ c, sl = some ⟨c, 0, none⟩ ∧ PlAt w c 0 pl ∧ B ≤ c) : Pls w sl pl := by
  rcases h with h | ⟨c, e, p, _⟩
  · exact .inl h
  · exact .inr ⟨c, 0, e, p⟩

set_option maxRecDepth 100000 in
set_option maxHeartbeats 4000000 in
/-- impl.PlanOf. -/
theorem ipo_any (sl : Option Addr) (cap : Nat) (sl2 : Option Addr) (cap2 : Nat) (sl3 : Option Addr) (cap3 : Nat) (sl4 : Option Addr) (cap4 : Nat) (rs : List LSt) (ps : List LPr) (ids ts : List Int) (top : Int) (w : World) (hn : rs.length ≤ 1048576) (hl : ids.length ≤ maxLen) (hm : ts.length ≤ maxLen) (hz : Sts w sl rs) (hp : Prs w sl2 ps) (hw : ∀ p ∈ ps, WfP p) (hi : Ints w sl3 ids) (ht : Ints w sl4 ts) :
    Calls Try.prog 11 #[TV sl rs.length cap sl2 ps.length cap2, .int .i64 top, .slice sl3 ids.length cap3, .slice sl4 ts.length cap4] w fun e w' => ∃ v, e = .returned v ∧ w'.ownsRow w.heap.size 64 2 v (poA rs ps top ids ts).length (enCells (poA rs ps top ids ts)) ∧ Below w.heap.size w w' := by
  obtain ⟨i3, hi3, hd0, hd1, hd2⟩ := info_parts info34
  have HT := Lib.hid (TabAt.new w sl rs.length cap sl2 ps.length cap2)
  have B0 := Lib.hid (bA0 w (.cells #[.slice sl rs.length cap, .slice sl2 ps.length cap2] 26))
  have E1 : Hid (∀ W, Below w.heap.size w W → Calls Try.prog 24 #[TV sl rs.length cap sl2 ps.length cap2, .slice sl3 ids.length cap3] W fun e w' => e = .returned (.bool (B (IdsR rs ps ids))) ∧ Below W.heap.size W w') := fun W hW => iir_any sl cap sl2 cap2 sl3 cap3 rs ps ids W hn hl (hz.below hW) (hp.below hW) hw (hi.below hW)
  have E2 : Hid (∀ q : Int, ∀ W, Below w.heap.size w W → Calls Try.prog 35 #[.slice sl4 ts.length cap4, .int .i64 1, .int .i64 q] W fun e w' => e = .returned (.bool (B (InRise 1 q ts))) ∧ Below W.heap.size W w') := fun q W hW => rw_any 1 q sl4 cap4 ts W hm (ht.below hW)
  unfold maxLen at hl hm
  by_cases h4 : 400 < ts.length
  · have h4' : (400 : Int) < (ts.length : Int) := by omega
    rw [poA_no (fun g => by have := g.1; omega)]
    clear hz hp hw hi ht E1 E2 HT
    generalize rs.length = rn at *
    generalize ps.length = pn at *
    generalize ids.length = n at *
    generalize ts.length = m at *
    go_enter Try.func11, Try.ntmps11
    go_wp2
    go_ret
    exact ⟨_, rfl, ⟨rfl, .inl ⟨rfl, rfl⟩⟩, B0.out⟩
  have h4' : ¬ (400 : Int) < (ts.length : Int) := by omega
  cases hb : B (IdsR rs ps ids) with
  | false =>
    rw [poA_no (fun g => B_false hb g.2.1)]
    rw [hb] at E1
    clear hb hz hp hw hi ht E2 HT
    generalize rs.length = rn at *
    generalize ps.length = pn at *
    generalize ids.length = n at *
    generalize ts.length = m at *
    go_enter Try.func11, Try.ntmps11
    go_wp2_with fail
    refine (E1.out _ B0.out).mono ?_
    rintro e w1 ⟨rfl, b1⟩
    have D1 := Lib.hid (bT B0.out b1)
    clear b1 E1
    go_wp2
    go_ret
    exact ⟨_, rfl, ⟨rfl, .inl ⟨rfl, rfl⟩⟩, D1.out⟩
  | true =>
    rw [hb] at E1
    have IR := B_true hb
    have hpl : (plF rs top ids).length ≤ 38400 := by
      have := plF_le top ids IR.2.1
      have := IR.1
      omega
    have E3 : Hid (∀ W, Below w.heap.size w W → Calls Try.prog 25 #[TV sl rs.length cap sl2 ps.length cap2, .int .i64 top, .slice sl3 ids.length cap3] W fun e w' => ∃ b rows, e = .returned (.slice (some ⟨b, 0, none⟩) ids.length ids.length) ∧ rows.map (fun r => r.2) = ids.map (chF rs top) ∧ Rws w' (some ⟨b, 0, none⟩) rows ∧ Below W.heap.size W w') := fun W hW => ch_any sl cap sl2 cap2 sl3 cap3 rs ps top ids W IR.1 (hz.below hW) IR.2.1 (hi.below hW)
    have E4 : Hid (∀ b rows W, rows.map (fun r => r.2) = ids.map (chF rs top) → Rws W (some ⟨b, 0, none⟩) rows → Calls Try.prog 34 #[.slice (some ⟨b, 0, none⟩) ids.length ids.length] W fun e w' => ∃ s c, e = .returned (.slice s (plF rs top ids).length c) ∧ (plF rs top ids = [] ∨ ∃ c, s = some ⟨c, 0, none⟩ ∧ PlAt w' c 0 (plF rs top ids) ∧ W.heap.size ≤ c) ∧ Below W.heap.size W w') := fun b rows W er r => by
      have hl' : rows.length = ids.length := by have := congrArg List.length er; simpa using this
      have := cat_any (some ⟨b, 0, none⟩) ids.length rows W (by rw [hl']; have := IR.1; omega) (by rw [flatR_map er]; omega) r
      rw [hl', flatR_map er] at this
      refine this.mono ?_
      rintro e w' ⟨v, rfl, o, bl⟩
      obtain ⟨s, c, rfl, h⟩ := own_pls o
      exact ⟨s, c, rfl, h, bl⟩
    have h400 := IR.1
    have E5 : Hid (∀ zs s c W, Below w.heap.size w W → zs.length ≤ 400 → Ints W s zs → Calls Try.prog 36 #[.slice s zs.length c, .slice sl3 ids.length cap3] W fun e w' => e = .returned (.bool (B (zs = ids))) ∧ Below W.heap.size W w') := fun zs s c W hW h i => eqz_any s c zs sl3 cap3 ids W (by omega) (by omega) i (hi.below hW)
    cases hc : B (InRise 1 (plF rs top ids).length ts) with
    | false =>
      rw [poA_no (fun g => B_false hc g.2.2.1)]
      have E2' : Hid (∀ W, Below w.heap.size w W → Calls Try.prog 35 #[.slice sl4 ts.length cap4, .int .i64 1, .int .i64 ((plF rs top ids).length : Int)] W fun e w' => e = .returned (.bool false) ∧ Below W.heap.size W w') := fun W hW => by
        have := E2.out ((plF rs top ids).length : Int) W hW
        rwa [hc] at this
      clear hb hc hz hp hw hi ht IR E2 E5
      generalize plF rs top ids = qs at *
      generalize rs.length = rn at *
      generalize ps.length = pn at *
      generalize ids.length = n at *
      generalize ts.length = m at *
      generalize qs.length = q at *
      go_enter Try.func11, Try.ntmps11
      go_wp2_with fail
      refine (E1.out _ B0.out).mono ?_
      rintro e w1 ⟨rfl, b1⟩
      have D1 := Lib.hid (bT B0.out b1)
      have TA := HT.out.below b1
      obtain ⟨t0, t1⟩ := TA.cells
      have tl := TA.lt
      clear b1 E1 TA
      go_wp2_with fail
      refine (E3.out _ D1.out).mono ?_
      rintro e w2 ⟨b4, rows, rfl, er, r4, bl4⟩
      have D2 := Lib.hid (bT D1.out bl4)
      have T4 := Lib.hid (E4.out b4 rows _ er r4)
      clear bl4 er r4 E3 t0 t1 tl
      go_wp2_with fail
      refine T4.out.mono ?_
      rintro e w5 ⟨s5, c5, rfl, -, b5⟩
      have D5 := Lib.hid (bT D2.out b5)
      clear b5 T4
      go_wp2_with fail
      refine (E2'.out _ D5.out).mono ?_
      rintro e w6 ⟨rfl, b6⟩
      have D6 := Lib.hid (bT D5.out b6)
      clear b6 E2'
      go_wp2
      go_ret
      exact ⟨_, rfl, ⟨rfl, .inl ⟨rfl, rfl⟩⟩, D6.out⟩
    | true =>
      have IT := Lib.hid (B_true hc)
      have E2' : Hid (∀ W, Below w.heap.size w W → Calls Try.prog 35 #[.slice sl4 ts.length cap4, .int .i64 1, .int .i64 ((plF rs top ids).length : Int)] W fun e w' => e = .returned (.bool true) ∧ Below W.heap.size W w') := fun W hW => by
        have := E2.out ((plF rs top ids).length : Int) W hW
        rwa [hc] at this
      have YY := Lib.hid (show pidsL (poP (plF rs top ids) ts) = ids → poA rs ps top ids ts = poP (plF rs top ids) ts from fun e => poA_yes ⟨by omega, IR, IT.out, e⟩)
      have NN := Lib.hid (show ¬ pidsL (poP (plF rs top ids) ts) = ids → poA rs ps top ids ts = [] from fun e => poA_no (fun g => e g.2.2.2))
      have HTS := Lib.hid ht
      clear hb hc hz hp hw hi ht IR E2
      generalize poA rs ps top ids ts = ans at *
      generalize plF rs top ids = qs at *
      generalize rs.length = rn at *
      generalize ps.length = pn at *
      generalize ids.length = n at *
      generalize hM : ts.length = m at *
      have HM := Lib.hid hM
      clear hM
      generalize hQ : qs.length = q at *
      have HQ := Lib.hid hQ
      clear hQ
      go_enter Try.func11, Try.ntmps11
      go_wp2_with fail
      refine (E1.out _ B0.out).mono ?_
      rintro e w1 ⟨rfl, b1⟩
      have D1 := Lib.hid (bT B0.out b1)
      have TA := HT.out.below b1
      obtain ⟨t0, t1⟩ := TA.cells
      have tl := TA.lt
      clear b1 E1 TA
      go_wp2_with fail
      refine (E3.out _ D1.out).mono ?_
      rintro e w2 ⟨b4, rows, rfl, er, r4, bl4⟩
      have D2 := Lib.hid (bT D1.out bl4)
      have T4 := Lib.hid (E4.out b4 rows _ er r4)
      clear bl4 er r4 E3 t0 t1 tl
      go_wp2_with fail
      refine T4.out.mono ?_
      rintro e w5 ⟨s5, c5, rfl, z5, b5⟩
      have D5 := Lib.hid (bT D2.out b5)
      have Z5 := Lib.hid (pls_of z5)
      clear b5 T4 z5
      go_wp2_with fail
      refine (E2'.out _ D5.out).mono ?_
      rintro e w6 ⟨rfl, b6⟩
      have D6 := Lib.hid (bT D5.out b6)
      have Z6 := Lib.hid (Z5.out.below b6)
      clear b6 E2' Z5 D5 D2 D1 E4
      go_wp2
      go_loopw [10, 34] (fun v i wr => ∃ (k : Nat) (cu : List LPl), i = .int .i64 k ∧ k ≤ m ∧ cu.length ≤ k ∧ Hid (cu = poP qs (ts.take k)) ∧ Hid (wr.ownsRow w6.heap.size 64 2 v cu.length (enCells cu)) ∧ Hid (Below w6.heap.size w6 wr)) (fun _ i _ => m - (intOf i).toNat)
      case atStart => exact ⟨0, [], rfl, Nat.zero_le _, Nat.zero_le _, rfl, ⟨rfl, .inl ⟨rfl, rfl⟩⟩, Below.refl _ _⟩
      case round =>
        obtain ⟨k, cu, rfl, hk, hcl, HC, OR, HB⟩ := hrel
        have hk0 : (0 : Int) ≤ (k : Int) := by omega
        have DW := Lib.hid (bT D6.out HB.out)
        by_cases g1 : k < m
        · have g1' : (k : Int) < (m : Int) := by omega
          have hlt : k < ts.length := by rw [HM.out]; exact g1
          obtain ⟨g, o, rfl, TI⟩ : ∃ g o, sl4 = some ⟨g, o, none⟩ ∧ IntsAt w g o ts := by
            rcases HTS.out with e | h
            · rw [e] at hlt; simp at hlt
            · exact h
          have hc := (DW.out.cell (p := ⟨g, o + k, none⟩) TI.1).trans (TI.2 k hlt)
          have hzb := (IT.out k hlt).1
          have PS := Lib.hid (poP_step qs ts k hlt)
          clear hlt TI
          generalize ts.getD k 0 = z at *
          obtain ⟨z1, z2⟩ := hzb
          obtain ⟨j, rfl⟩ : ∃ j : Nat, z = (j : Int) + 1 := ⟨(z - 1).toNat, by omega⟩
          have hjq : j < q := by omega
          have hjn : ((j : Int) + 1 - 1).toNat = j := by omega
          have hlt2 : j < qs.length := by rw [HQ.out]; exact hjq
          obtain ⟨c, o2, rfl, PA⟩ : ∃ c o, s5 = some ⟨c, o, none⟩ ∧ PlAt w6 c o qs := by
            rcases Z6.out with e | h
            · rw [e] at hlt2; simp at hlt2
            · exact h
          have PB := PA.below HB.out
          obtain ⟨d0, d1⟩ := PB.cell j hlt2
          have cl := PB.lt
          obtain ⟨a, b, hpj⟩ : ∃ a b, qs[j] = (a, b) := ⟨_, _, rfl⟩
          rw [hpj] at d0 d1
          dsimp only at d0 d1
          have CS := Lib.hid (show cu ++ [(a, b)] = poP qs (ts.take (k + 1)) by
            rw [PS.out, ← HC.out, hjn, ← hpj]
            simp [hlt2])
          have EV := Lib.hid (show enCells cu ++ [.int .i64 a, .int .i64 b] = enCells (cu ++ [(a, b)]) from (enCells_add cu (a, b)).symm)
          have hjz : (0 : Int) ≤ (j : Int) := by omega
          have hjz2 : (j : Int) < (q : Int) := by omega
          have hsw := HB.out.size
          clear hlt2 PA PB hpj PS HC hjn z1 z2
          go_wp2_with (first | (at_builtin; refine wpList_append_lies _ rfl (.tmp 38) (.tmp 44) 37 rfl w6.heap.size 64 i3 (.agg #[.int .i64 0, .int .i64 0]) 2 16 Try.underlying37 hi3 hd0 hd1 hd2 rfl (by decide) _ _ _ rfl (OR.out.alloc _) ⟨wr.heap.size, 0, none⟩ 1 1 [.int .i64 a, .int .i64 b] rfl rfl (cell_two_new _ _ _ _) (by intro u hu; simp at hu; rcases hu with rfl | rfl <;> rfl) (by decide) (by unfold maxLen; omega) (by omega) (by simp; omega) (wr.heap.size + 1) (by simp) ?_))
          intro g9 cap9 w9 own9 grow9 hg9 hlt9
          have B9 := Lib.hid ((bA HB.out (.cells #[.int .i64 a, .int .i64 b] 64)).grown grow9 (by simp; omega) (fun j hj => (OR.out.lt j hj).1))
          rw [EV.out] at own9
          have N9 : Hid (w9.ownsRow w6.heap.size 64 2 (.slice (some ⟨g9, 0, none⟩) (cu.length + 1) cap9) (cu ++ [(a, b)]).length (enCells (cu ++ [(a, b)]))) := by
            rw [List.length_append]; exact own9
          have LL := Lib.hid (show (cu ++ [(a, b)]).length ≤ k + 1 by rw [List.length_append]; simp; omega)
          clear own9 grow9 hg9 hlt9 OR HB EV
          go_wp2
          go_roundw
          case rel => exact ⟨k + 1, cu ++ [(a, b)], by go_num, by omega, LL.out, CS, N9, B9⟩
          case measure => simp [intOf]; omega
        · have g1' : ¬ (k : Int) < (m : Int) := by omega
          have CE := Lib.hid (show cu = poP qs ts by rw [HC.out, List.take_of_length_le (by rw [HM.out]; omega)])
          have OF := Lib.hid (own_mono OR.out D6.out.size)
          obtain ⟨sv, cv, rfl, pv⟩ := own_pls OR.out
          have E6 := Lib.hid (ipi_any sv cv cu wr (by unfold maxLen; omega) (pls_of pv))
          rw [pidsA_eq (show cu.length ≤ 400 by omega)] at E6
          have L6 := Lib.hid (show (pidsL cu).length ≤ 400 by rw [pidsL_len]; omega)
          have YZ := Lib.hid (show pidsL cu = ids → ans = cu from fun e => by rw [CE.out]; rw [CE.out] at e; exact YY.out e)
          have NZ := Lib.hid (show ¬ pidsL cu = ids → ans = [] from fun e => by rw [CE.out] at e; exact NN.out e)
          clear HC OR CE YY NN pv
          go_wp2_with fail
          refine E6.out.mono ?_
          rintro e w7 ⟨v7, rfl, o7, b7⟩
          obtain ⟨s7, c7, rfl, i7⟩ := own_ints o7
          have D7 := Lib.hid (bT DW.out b7)
          have OF7 := Lib.hid (own_below OF.out b7)
          have T8 := Lib.hid (E5.out _ s7 c7 w7 D7.out L6.out i7)
          clear o7 b7 i7 E6 OF
          cases hbb : B (pidsL cu = ids) with
          | true =>
            rw [hbb] at T8
            have AN := Lib.hid (YZ.out (B_true hbb))
            clear hbb YZ NZ
            generalize (pidsL cu).length = idn at *
            go_wp2_with fail
            refine T8.out.mono ?_
            rintro e w8 ⟨rfl, b8⟩
            have D8 := Lib.hid (bT D7.out b8)
            have OF8 := Lib.hid (own_below OF7.out b8)
            rw [← AN.out] at OF8
            clear b8 T8
            go_wp2
            go_ret
            exact ⟨_, rfl, by rw [AN.out] at OF8 ⊢; exact OF8.out, D8.out⟩
          | false =>
            rw [hbb] at T8
            have AN := Lib.hid (NZ.out (B_false hbb))
            clear hbb YZ NZ
            generalize (pidsL cu).length = idn at *
            go_wp2_with fail
            refine T8.out.mono ?_
            rintro e w8 ⟨rfl, b8⟩
            have D8 := Lib.hid (bT D7.out b8)
            clear b8 T8
            go_wp2
            go_ret
            exact ⟨_, rfl, by rw [AN.out]; exact ⟨rfl, .inl ⟨rfl, rfl⟩⟩, D8.out⟩

end Go.Proofs.Ytaogkdhloogmhaa
namespace Go.Proofs.Ytaogkdhloogmhaa
open Go.RowKit
set_option linter.unusedVariables false

theorem tr_up (pl V : List LPl) (k : Nat) : (trK pl V k).Pairwise (· < ·) := by
  unfold trK
  rw [List.pairwise_map]
  exact (List.pairwise_lt_range.filter _).imp (fun {a b} h => by omega)
theorem tr_rise (pl V : List LPl) : InRise 1 V.length (trK pl V V.length) := fun k hk =>
  ⟨by
    obtain ⟨m, hm, e, _⟩ := (tr_mem pl V _).1 (getD_mem hk)
    rw [e]; exact ⟨by omega, by omega⟩, fun h0 => pair_rise _ (tr_up pl V _) k hk h0⟩
theorem filter_one {a : Int} : ∀ l : List Int, l.Pairwise (· ≠ ·) → a ∈ l → l.filter (fun c => decide (c = a)) = [a]
  | [], _, h => by cases h
  | x :: r, hp, h => by
    rw [List.pairwise_cons] at hp
    by_cases e : x = a
    · subst e
      have hr : r.filter (fun c => decide (c = x)) = [] := List.filter_eq_nil_iff.2 (fun c hc => by have := hp.1 c hc; simp; exact fun g => this g.symm)
      rw [List.filter_cons, hr]; simp
    · have ha : a ∈ r := by
        rcases List.mem_cons.1 h with g | g
        · exact absurd g.symm e
        · exact g
      rw [List.filter_cons, filter_one r hp.2 ha]; simp [e]
theorem ch_one {rs : List LSt} {ps : List LPr} {top : Int} {pl : List LPl} (h : PlanOk rs ps top pl) {p : LPl} (hp : p ∈ pl) : (chF rs top p.1).filter (fun q => B (q ∈ pl)) = [p] := by
  unfold chF
  rw [List.filter_map]
  have e : (rs.flatMap (domF p.1 top)).filter ((fun q : LPl => B (q ∈ pl)) ∘ fun c => (p.1, c)) = (rs.flatMap (domF p.1 top)).filter (fun c => decide (c = p.2)) := by
    refine List.filter_congr (fun c _ => ?_)
    show B ((p.1, c) ∈ pl) = decide (c = p.2)
    by_cases hc : c = p.2
    · subst hc; rw [B_yes (show (p.1, p.2) ∈ pl from hp)]; simp
    · rw [B_no (fun g => hc (by have := one_id h.ids g hp rfl; rw [← this]))]; simp [hc]
  rw [e, filter_one _ (dom_ne rs ps p.1 top h.ids.2.1) (h.dom p hp)]
  rfl
theorem plan_back {rs : List LSt} {ps : List LPr} {top : Int} {pl : List LPl} (h : PlanOk rs ps top pl) : (plF rs top (pidsL pl)).filter (fun q => B (q ∈ pl)) = pl := by
  have key : ∀ l : List LPl, (∀ p ∈ l, p ∈ pl) → ((pidsL l).flatMap (chF rs top)).filter (fun q => B (q ∈ pl)) = l := by
    intro l
    induction l with
    | nil => intro _; rfl
    | cons p r ih =>
      intro hl
      simp only [pidsL, List.map_cons, List.flatMap_cons, List.filter_append]
      rw [ch_one h (hl p (by simp)), show List.filter (fun q => B (q ∈ pl)) ((r.map fun p => p.1).flatMap (chF rs top)) = r from ih (fun q hq => hl q (by simp [hq]))]
      rfl
  exact key pl (fun _ hp => hp)
theorem po_tr (pl V : List LPl) : ∀ k, k ≤ V.length → poP V (trK pl V k) = (V.take k).filter (fun q => B (q ∈ pl)) := by
  intro k
  induction k with
  | zero => intro _; rfl
  | succ k ih =>
    intro hk
    have hk' : k < V.length := by omega
    have hg : V.getD k (0, 0) = V[k] := by simp [hk']
    rw [List.take_succ_eq_append_getElem hk', List.filter_append, ← ih (by omega)]
    cases hb : B (V[k] ∈ pl) with
    | true =>
      rw [trK_yes pl V k (by rw [hg]; exact hb), List.filter_cons, hb]
      unfold poP
      rw [List.map_append]
      simp [hk']
    | false =>
      rw [trK_no pl V k (by rw [hg]; exact hb), List.filter_cons, hb]
      simp
theorem trA_yes {rs : List LSt} {ps : List LPr} {top : Int} {pl : List LPl} (h : planB rs ps top pl = true) : trA rs ps top pl = trK pl (plF rs top (pidsL pl)) (plF rs top (pidsL pl)).length := by unfold trA; rw [if_pos h]
/-- No clause of the table is false of the trues of a right plan. -/
theorem plan_fault {rs : List LSt} {ps : List LPr} {top : Int} {pl : List LPl} (h : planB rs ps top pl = true) : fC (cnN rs ps top (pidsL pl) : Nat) (cnA rs ps top (pidsL pl)) (trA rs ps top pl) = -1 := by
  have ok := (planB_ok rs ps top pl).1 h
  have hN : cnN rs ps top (pidsL pl) = (plF rs top (pidsL pl)).length := by unfold cnN; rw [B_yes ok.ids]; rfl
  have h96 := plF_96 top (pidsL pl) ok.ids
  rw [trA_yes h]
  have hl := trK_len pl (plF rs top (pidsL pl)) (plF rs top (pidsL pl)).length
  rw [fC_yes (by omega) ⟨cnA_right top ok.ids, by rw [hN]; exact tr_rise pl _⟩]
  refine fF_all (Nat.le_refl _) (fun i hi => ?_)
  simp only [List.getD_eq_getElem?_getD, List.getElem?_eq_getElem hi, Option.getD_some]
  exact plan_true ok _ (List.getElem_mem hi)
/-- And the trues give the plan back. -/
theorem plan_of {rs : List LSt} {ps : List LPr} {top : Int} {pl : List LPl} (h : planB rs ps top pl = true) : poA rs ps top (pidsL pl) (trA rs ps top pl) = pl := by
  have ok := (planB_ok rs ps top pl).1 h
  have h96 := plF_96 top (pidsL pl) ok.ids
  rw [trA_yes h]
  have hl := trK_len pl (plF rs top (pidsL pl)) (plF rs top (pidsL pl)).length
  have e : poP (plF rs top (pidsL pl)) (trK pl (plF rs top (pidsL pl)) (plF rs top (pidsL pl)).length) = pl := by
    rw [po_tr pl _ _ (Nat.le_refl _), List.take_length]
    exact plan_back ok
  have hok : PoOK rs ps top (pidsL pl) (trK pl (plF rs top (pidsL pl)) (plF rs top (pidsL pl)).length) := ⟨by omega, ok.ids, tr_rise pl _, by rw [e]⟩
  unfold poA
  rw [B_yes hok, if_pos rfl, e]

end Go.Proofs.Ytaogkdhloogmhaa
