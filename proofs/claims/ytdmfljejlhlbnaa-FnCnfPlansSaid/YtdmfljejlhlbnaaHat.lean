/-
  IS A CLAUSE RIGHT? impl.clauseRight.
  THE LAWS' CLAUSES copied into a Cnf; are clauses right? As both sides answer it.
  ARE CLAUSES RIGHT? The model's answer.
  IS A CLAUSE TRUE? impl.clauseTrue; is a number in a list? spec.l01Has.
  THE FIRST CLAUSE THAT IS NOT TRUE: impl.CnfFault, impl.CnfTrue.
  THE CLAUSES OF A TABLE ARE TRUE OF A RIGHT PLAN, as lists.
  HOW MANY CLAUSES a table has, and how long they are; tables that differ in their slices only.
  THE CLAUSES OF A TABLE ARE RIGHT, as lists: how many, how long, of which literals.
-/
import Derived.Test.YtdmfljejlhlbnaaHas
import Derived.Test.YtdmfljejlhlbnaaHaa
import Derived.Test.YtdmfljejlhlbnaaHan
import Derived.Test.YtdmfljejlhlbnaaHab
import Derived.BigQuiet
import Derived.OpenShut
import Derived.Test.YtdmfljejlhlbnaaHap
import Derived.Test.YtdmfljejlhlbnaaHal
import Derived.Test.YtdmfljejlhlbnaaHaj
import Derived.Test.YtdmfljejlhlbnaaHai
namespace Go.Proofs.Ytdmfljejlhlbnaa
open Go.RowKit Go.Shelf
set_option linter.unusedVariables false
attribute [local go_sem] Oper.semAt_some

/-- Literals of variables up to vars, no two of one. -/
def GoodTo (vars : Int) (zs : List Int) : Prop := (∀ z ∈ zs, 1 ≤ lv z ∧ lv z ≤ vars) ∧ (zs.map lv).Nodup
/-- A clause is right, as the program asks it. -/
def ClR (vars : Int) (zs : List Int) : Prop := zs.length ≤ 16 ∧ GoodTo vars zs
theorem GoodTo.nil (vars : Int) : GoodTo vars [] := ⟨fun z h => absurd h List.not_mem_nil, List.nodup_nil⟩
theorem GoodTo.step {vars : Int} {pre : List Int} {x : Int} (h : GoodTo vars pre) (h1 : 1 ≤ lv x) (h2 : lv x ≤ vars) (h3 : lv x ∉ pre.map lv) : GoodTo vars (pre ++ [x]) := by
  refine ⟨fun z hz => ?_, ?_⟩
  · rcases List.mem_append.1 hz with hz | hz
    · exact h.1 z hz
    · rw [List.mem_singleton.1 hz]; exact ⟨h1, h2⟩
  · rw [List.map_append, List.nodup_append]
    refine ⟨h.2, by simp, fun a ha b hb => ?_⟩
    simp at hb
    rintro rfl
    subst hb
    exact h3 ha
theorem GoodTo.no1 {vars : Int} {pre : List Int} {x : Int} (h1 : ¬ (1 ≤ lv x ∧ lv x ≤ vars)) : ¬ GoodTo vars (pre ++ [x]) := fun g => h1 (g.1 x (by simp))
theorem GoodTo.no2 {vars : Int} {pre : List Int} {x : Int} (h1 : lv x ∈ pre.map lv) : ¬ GoodTo vars (pre ++ [x]) := fun g => by
  have := g.2
  rw [List.map_append, List.nodup_append] at this
  exact this.2.2 _ h1 (lv x) (by simp) rfl
theorem GoodTo.prefix {vars : Int} {pre zs : List Int} (h : pre <+: zs) (g : GoodTo vars zs) : GoodTo vars pre := by
  obtain ⟨r, rfl⟩ := h
  refine ⟨fun z hz => g.1 z (List.mem_append_left _ hz), ?_⟩
  have := g.2
  rw [List.map_append, List.nodup_append] at this
  exact this.1

theorem boxB {W W' : World} {b : Nat} {t : TypeId} {v : Value} (h : Boxed W b t v) (hb : Below W.heap.size W W') : Boxed W' b t v := (hb.block b h.lt).trans h
theorem info2c : (Try.prog.info? 2).map (fun i => (i.zero, i.size, i.bytes)) = some (some (.int .i64 0), 1, 8) := by kernel_rfl

set_option maxRecDepth 100000 in
set_option maxHeartbeats 2000000 in
theorem clr_long (vars : Int) (sl : Option Addr) (n cap : Nat) (w : World) (h : 16 < n) :
    Calls Try.prog 88 #[.slice sl n cap, .int .i64 vars] w fun e w' => e = .returned (.bool false) ∧ Below w.heap.size w w' := by
  have h' : (16 : Int) < (n : Int) := by omega
  go_enter Try.func88, Try.ntmps88
  go_wp2
  exact bodyPost_ret (v := .bool false) (by simp [results, Try.results88, go_sem]) rfl ⟨rfl, bA (bA0 _ _) _⟩

set_option maxRecDepth 100000 in
set_option maxHeartbeats 4000000 in
theorem clr_short (vars : Int) (sl : Option Addr) (cap : Nat) (zs : List Int) (w : World) (hn : zs.length ≤ 16) (hz : Ints w sl zs) :
    Calls Try.prog 88 #[.slice sl zs.length cap, .int .i64 vars] w fun e w' => e = .returned (.bool (B (GoodTo vars zs))) ∧ Below w.heap.size w w' := by
  obtain ⟨i0, hi, hz0, hz1, hz2⟩ := info_parts info2c
  have h16 : ¬ (16 : Int) < (zs.length : Int) := by omega
  have HZ : Hid (∀ W, Below w.heap.size w W → zs = [] ∨ ∃ b off, sl = some ⟨b, off, none⟩ ∧ b < w.heap.size ∧ ∀ j, j < zs.length → W.cell? ⟨b, off + j, none⟩ = some (.int .i64 (zs[j]?.getD 0))) := fun W hW => by
    rcases hz with e | ⟨c, o, e, hl, hc⟩
    · exact .inl e
    · exact .inr ⟨c, o, e, hl, fun j hj => (hW.cell (p := ⟨c, o + j, none⟩) hl).trans (by rw [hc j hj]; simp)⟩
  have HN := Lib.hid hn
  clear hz hn
  refine (callsIn_wide (n := 6)).1 ?_
  refine callsIn_of_wp_marks Try.func88 rfl trivial ?_ rfl
  simp only [Try.ntmps88, List.size_toArray, List.length_cons, List.length_nil, Nat.reduceAdd, Nat.reduceSub, Array.replicate_succ, Array.replicate_zero, List.push_toArray, List.append_toArray, List.nil_append, List.cons_append]
  gi_wp2_with (refine ⟨trivial, ?_⟩; gi_at_call 134; refine (lits_in Fence.wide _ trivial rfl _ _ _ _).mono ?_; rintro e w' ⟨rfl, rfl⟩)
  have bV := Boxed.new w 2 (.int .i64 vars)
  have bR := Boxed.new (w.alloc (.cells #[.int .i64 vars] 2)) 4 (.bool false)
  have bS := Boxed.new ((w.alloc (.cells #[.int .i64 vars] 2)).alloc (.cells #[.bool false] 4)) 40 (.slice none 0 0)
  have bC := Boxed.new (((w.alloc (.cells #[.int .i64 vars] 2)).alloc (.cells #[.bool false] 4)).alloc (.cells #[.slice none 0 0] 40)) 40 (.slice sl zs.length cap)
  simp only [World.size_alloc] at bR bS bC
  have hB0 : Below w.heap.size w ((((w.alloc (.cells #[.int .i64 vars] 2)).alloc (.cells #[.bool false] 4)).alloc (.cells #[.slice none 0 0] 40)).alloc (.cells #[.slice sl zs.length cap] 40)) := bA (bA (bA (bA0 _ _) _) _) _
  refine wpIn_rangeFunc_ownG rfl (by omega) (gf := 149) (lb := #[.pointer (some ⟨w.heap.size + 1 + 1 + 1, 0, none⟩)]) rfl trivial (enters_of Try.func149 (by kernel_rfl) rfl)
    (lits_stops Fence.wide _ trivial rfl (by omega) (w.heap.size + 1 + 1 + 1) w.heap.size sl cap zs (by have := HN.out; omega) _ (by simp) (by simp; omega) bC.cell (HZ.out _ hB0)) belowK_t (belowK_b (by simp; omega)) (Below.refl _ _) (fun _ => rfl)
    (fun pre W => (∃ v, Boxed W (w.heap.size + 1 + 1) 40 v ∧ W.ownsRow (w.heap.size + 1) 2 1 v (pre.map lv).length (valsZ (pre.map lv)) ∧ True) ∧ Boxed W w.heap.size 2 (.int .i64 vars) ∧ Boxed W (w.heap.size + 1) 4 (.bool false) ∧ GoodTo vars pre ∧ Below w.heap.size w W)
    (fun c pre W => Boxed W (w.heap.size + 1) 4 (.bool false) ∧ (c = .ret ∧ ¬ GoodTo vars pre) ∧ Below w.heap.size w W)
    (OwnFrom.and (Own.from (holdsRow_own (w.heap.size + 1) (w.heap.size + 1 + 1) 40 2 1 (fun pre : List Int => (pre.map lv).length) (fun pre : List Int => valsZ (pre.map lv)) (fun _ _ => True)) _) (OwnFrom.and (Own.from (boxed_own _ _ _) _) (OwnFrom.and (Own.from (boxed_own _ _ _) _) (OwnFrom.and (ownFrom_pure _ _) (ownFrom_below (Nat.le_refl _) (by simp; omega))))))
    (fun c => OwnFrom.and (Own.from (boxed_own _ _ _) _) (OwnFrom.and (ownFrom_pure _ _) (ownFrom_below (Nat.le_refl _) (by simp; omega))))
    ⟨⟨_, bS.alloc _, World.ownsRow_nil _ _ _ _, trivial⟩, ((bV.alloc _).alloc _).alloc _, (bR.alloc _).alloc _, GoodTo.nil vars, hB0⟩
    (fun x => { tmps := #[.slice sl zs.length cap, .int .i64 vars, undef, .pointer (some ⟨w.heap.size, 0, none⟩), .pointer (some ⟨w.heap.size + 1, 0, none⟩), .pointer (some ⟨w.heap.size + 1 + 1, 0, none⟩), .int .i64 (lv x), .slice sl zs.length cap, .int .i64 zs.length, .bool false, .slice sl zs.length cap, .func (.func 149) #[] #[.pointer (some ⟨w.heap.size + 1 + 1 + 1, 0, none⟩)], .int .i64 (lv x), .bool (decide (0 < x)), undef, undef, undef, undef, undef, undef, undef, undef, undef, undef, undef, undef, undef, undef, undef, undef], defers := [] }) ?assign ?body ?done ?stop
  case assign =>
    intro l x W K hK
    gi_wp2
    exact hK
  case body =>
    rintro l pre x W ⟨⟨v, hv, hrow, -⟩, bV, bR, hG, hB⟩ hlt
    have hc := hv.cell
    have hcv := bV.cell
    have hcr := bR.cell
    have hfr := bR.frozen
    by_cases c1 : lv x < 1
    · have NG := Lib.hid (GoodTo.no1 (vars := vars) (pre := pre) (x := x) (fun g => by omega))
      generalize lv x = y at *
      gi_wp2
      refine ⟨trivial, ?_⟩
      gi_wp2
      exact ⟨(KeepsOthers.setCell _ _ _).from _, bR.set _, ⟨rfl, NG.out⟩, hB.setCell (p := ⟨w.heap.size + 1, 0, none⟩) (by simp) _⟩
    · by_cases c2 : vars < lv x
      · have NG := Lib.hid (GoodTo.no1 (vars := vars) (pre := pre) (x := x) (fun g => by omega))
        generalize lv x = y at *
        gi_wp2
        refine ⟨trivial, ?_⟩
        gi_wp2
        exact ⟨(KeepsOthers.setCell _ _ _).from _, bR.set _, ⟨rfl, NG.out⟩, hB.setCell (p := ⟨w.heap.size + 1, 0, none⟩) (by simp) _⟩
      · have HR := Lib.hid hrow
        have HG := Lib.hid hG
        have hpl : (pre.map lv).length ≤ 16 := by have := HN.out; simp; omega
        obtain ⟨s, kc, rfl, ii⟩ := own_ints hrow
        have E := Lib.hid (has_any s kc (lv x) (pre.map lv) W (by omega) ii)
        have hk1 : 1 ≤ 6 - 1 - 1 := by omega
        clear ii hG hrow
        cases hb : B (lv x ∈ pre.map lv) with
        | true =>
          rw [hb] at E
          have NG := Lib.hid (GoodTo.no2 (vars := vars) (pre := pre) (x := x) (B_true hb))
          clear hb HR HG
          generalize lv x = y at *
          generalize (pre.map lv).length = m at *
          gi_wp2_with (refine ⟨trivial, ?_⟩; gi_at_call 78; refine (CallsIn.inRound l (callsIn_wide.2 E.out)).mono ?_; rintro e w1 ⟨rfl, b1⟩; have bR1 := boxB bR b1; have hcr1 := bR1.cell; have hfr1 := bR1.frozen)
          exact ⟨(keeps_below b1).trans ((KeepsOthers.setCell _ _ _).from _), bR1.set _, ⟨rfl, NG.out⟩, (bT hB b1).setCell (p := ⟨w.heap.size + 1, 0, none⟩) (by simp) _⟩
        | false =>
          rw [hb] at E
          have HG2 := Lib.hid (HG.out.step (by omega) (by omega) (B_false hb))
          have EM := Lib.hid (show (pre ++ [x]).map lv = pre.map lv ++ [lv x] by simp)
          clear hb HG
          generalize lv x = y at *
          generalize hps : pre.map lv = ps at *
          generalize hm : ps.length = m at *
          gi_wp2_with (first | (refine ⟨trivial, ?_⟩; gi_at_call 78; refine (CallsIn.inRound l (callsIn_wide.2 E.out)).mono ?_; rintro e w1 ⟨rfl, b1⟩; have bS1 := boxB hv b1; have hcs1 := bS1.cell; have hr1 := own_below HR.out b1) | (gi_at_builtin; refine wpListIn_append_own _ rfl _ _ 40 rfl (w.heap.size + 1) 2 i0 (.int .i64 0) 1 8 Try.underlying40 hi hz0 hz1 hz2 rfl (by decide) _ _ _ rfl (hr1.alloc _) ⟨w1.heap.size, 0, none⟩ 1 1 [.int .i64 y] rfl rfl (cell_one_new _ _ _) (by simp [Value.oneCell']) (by unfold maxLen; omega) (by omega) (by have := bS1.lt; simp; omega) ?_; intro v' w2 hown' hgrow _; obtain ⟨g', cap', rfl⟩ := ownsRow_succ hown'; obtain ⟨hv1, hv2, hr2, hk2, hb2⟩ := bS1.appended (by decide) hr1 (by have := bS1.lt; omega) (by omega) hown' hgrow; have hc1 := hv1.cell; have hf1 := hv1.frozen))
          have bR1 := boxB bR b1
          have bV1 := boxB bV b1
          have bR2 := (((bR1.alloc _).kept hgrow (bR1.not_row (by decide) hr1)).other (B' := w.heap.size + 1 + 1) (by omega) (.slice (some ⟨g', 0, none⟩) (m + 1) cap'))
          have bV2 : Boxed _ w.heap.size 2 (.int .i64 vars) := (hb2.block w.heap.size (by omega)).trans bV1
          refine ⟨(keeps_below b1).trans (hk2.from _), (b1.mono hB.size).trans (hb2.mono (by omega)), ⟨_, hv2, ?_, trivial⟩, bV2, bR2, HG2.out, (bT hB b1).trans (hb2.mono (by omega))⟩
          rw [EM.out]
          simpa [valsZ, hm] using hr2
  case done =>
    rintro D ys W hD rfl ⟨-, -, bR, hG, hB⟩ hK
    have hcr := bR.cell
    have hfr := bR.frozen
    gi_wp2
    have hK' := (KeepsOthers.setCell W ⟨w.heap.size + 1, 0, none⟩ (.bool true)).same D _ hK rfl
    refine ⟨by simp, .inl ⟨_, _, rfl, run_takeDeferred hK', ?_⟩⟩
    have hc5 := cell_kept (World.cell?_setCell_same' W ⟨w.heap.size + 1, 0, none⟩ (.bool true) (by rw [hcr]; rfl)) (grownBy_putObj' _ D (.deferred none)) (fun r e => by cases e; exact ⟨_, hK', rfl⟩)
    refine ⟨.bool true, ?_, by rw [B_yes hG], (hB.setCell (p := ⟨w.heap.size + 1, 0, none⟩) (by simp) _).trans (belowK_b (w := w) (Nat.le_refl _) _ D _ _ (by simp at hD; omega) hK' rfl rfl)⟩
    simp [results, Try.f88, go_sem, hc5]
  case stop =>
    rintro D c pre W hD hpre ⟨bR, ⟨rfl, hG⟩, hB⟩ hK
    have hcr := bR.cell
    gi_wp2
    refine ⟨by simp, .inl ⟨_, _, rfl, run_takeDeferred hK, ?_⟩⟩
    have hc5 := cell_kept hcr (grownBy_putObj' _ D (.deferred none)) (fun r e => by cases e; exact ⟨_, hK, rfl⟩)
    refine ⟨.bool false, ?_, by rw [B_no (fun g => hG (g.prefix hpre))], hB.trans (belowK_b (w := w) (Nat.le_refl _) W D _ _ (by simp at hD; omega) hK rfl rfl)⟩
    simp [results, Try.f88, go_sem, hc5]

/-- impl.clauseRight. -/
theorem clr_any (vars : Int) (sl : Option Addr) (cap : Nat) (zs : List Int) (w : World) (hz : Ints w sl zs) :
    Calls Try.prog 88 #[.slice sl zs.length cap, .int .i64 vars] w fun e w' => e = .returned (.bool (B (ClR vars zs))) ∧ Below w.heap.size w w' := by
  by_cases h : zs.length ≤ 16
  · rw [B_iff (show ClR vars zs ↔ GoodTo vars zs from ⟨fun g => g.2, fun g => ⟨h, g⟩⟩)]
    exact clr_short vars sl cap zs w h hz
  · rw [B_no (p := ClR vars zs) (fun g => h g.1)]
    exact clr_long vars sl _ cap w (by omega)

end Go.Proofs.Ytdmfljejlhlbnaa
namespace Go.Proofs.Ytdmfljejlhlbnaa
open Go.RowKit
set_option linter.unusedVariables false

/-- The first k clauses are right. -/
def ClsTo (vars : Int) (zss : List (List Int)) (k : Nat) : Prop := ∀ i, i < k → ClR vars (zss.getD i [])
/-- Clauses are right. -/
def CnfR (vars : Int) (zss : List (List Int)) : Prop := (0 ≤ vars ∧ vars ≤ 96) ∧ zss.length ≤ 4000 ∧ ClsTo vars zss zss.length
theorem ClsTo.zero (vars : Int) (zss : List (List Int)) : ClsTo vars zss 0 := fun i h => absurd h (Nat.not_lt_zero _)
theorem ClsTo.step {vars : Int} {zss : List (List Int)} {k : Nat} (h : ClsTo vars zss k) (g : ClR vars (zss.getD k [])) : ClsTo vars zss (k + 1) := fun i hi => by
  by_cases e : i = k
  · subst e; exact g
  · exact h i (by omega)
theorem bareC_get {cs : List LCl} {k : Nat} (h : k < cs.length) : (bareC cs).getD k [] = cs[k].2 := by simp [bareC, h]
theorem bareC_length (cs : List LCl) : (bareC cs).length = cs.length := by simp [bareC]
/-- A Cnf lies in block b. -/
def CnfAt (w : World) (b : Nat) (vars : Int) (sl : Option Addr) (n cap : Nat) : Prop := w.heap[b]? = some (.cells #[.int .i64 vars, .slice sl n cap] 45)
theorem CnfAt.lt {w : World} {b : Nat} {vars : Int} {sl : Option Addr} {n cap : Nat} (h : CnfAt w b vars sl n cap) : b < w.heap.size := (Array.getElem?_eq_some_iff.1 h).1
theorem CnfAt.below {w w' : World} {b : Nat} {vars : Int} {sl : Option Addr} {n cap : Nat} (h : CnfAt w b vars sl n cap) (hb : Below w.heap.size w w') : CnfAt w' b vars sl n cap := (hb.block b h.lt).trans h
theorem CnfAt.cells {w : World} {b : Nat} {vars : Int} {sl : Option Addr} {n cap : Nat} (h : CnfAt w b vars sl n cap) : w.cell? ⟨b, 0, none⟩ = some (.int .i64 vars) ∧ w.cell? ⟨b, 1, none⟩ = some (.slice sl n cap) := by
  unfold CnfAt at h
  constructor <;> simp [World.cell?, h]
theorem CnfAt.new (w : World) (vars : Int) (sl : Option Addr) (n cap : Nat) : CnfAt (w.alloc (.cells #[.int .i64 vars, .slice sl n cap] 45)) w.heap.size vars sl n cap := new_at _ _

set_option maxRecDepth 100000 in
set_option maxHeartbeats 2000000 in
/-- impl.CnfRight. -/
theorem icr_any (vars : Int) (sl : Option Addr) (cap : Nat) (cs : List LCl) (w : World) (hn : cs.length ≤ maxLen) (hz : Cls w sl cs) :
    Calls Try.prog 27 #[CV vars sl cs.length cap] w fun e w' => e = .returned (.bool (B (CnfR vars (bareC cs)))) ∧ Below w.heap.size w w' := by
  unfold maxLen at hn
  have CA := Lib.hid (CnfAt.new w vars sl cs.length cap)
  have B0 := Lib.hid (bA0 w (.cells #[.int .i64 vars, .slice sl cs.length cap] 45))
  have HB := Lib.hid (bareC_length cs)
  by_cases c1 : vars < 0
  · have NO := Lib.hid (B_no (p := CnfR vars (bareC cs)) (fun g => by have := g.1.1; omega))
    rw [NO.out]
    clear NO hz HB
    generalize cs.length = n at *
    go_enter Try.func27, Try.ntmps27
    go_wp2
    go_ret
    exact ⟨rfl, B0.out⟩
  by_cases c2 : 96 < vars
  · have NO := Lib.hid (B_no (p := CnfR vars (bareC cs)) (fun g => by have := g.1.2; omega))
    rw [NO.out]
    clear NO hz HB
    generalize cs.length = n at *
    go_enter Try.func27, Try.ntmps27
    go_wp2
    go_ret
    exact ⟨rfl, B0.out⟩
  by_cases c3 : 4000 < cs.length
  · have NO := Lib.hid (B_no (p := CnfR vars (bareC cs)) (fun g => by have := g.2.1; rw [HB.out] at this; omega))
    have c3' : (4000 : Int) < (cs.length : Int) := by omega
    rw [NO.out]
    clear NO hz HB
    generalize cs.length = n at *
    go_enter Try.func27, Try.ntmps27
    go_wp2
    go_ret
    exact ⟨rfl, B0.out⟩
  have c3' : ¬ (4000 : Int) < (cs.length : Int) := by omega
  have YY := Lib.hid (show ∀ k, cs.length ≤ k → ClsTo vars (bareC cs) k → B (CnfR vars (bareC cs)) = true from fun k hk h => B_yes ⟨⟨by omega, by omega⟩, by rw [HB.out]; omega, fun i hi => h i (by rw [HB.out] at hi; omega)⟩)
  have NN := Lib.hid (show ∀ k, k < cs.length → ¬ ClR vars ((bareC cs).getD k []) → B (CnfR vars (bareC cs)) = false from fun k hk h => B_no (fun g => h (g.2.2 k (by rw [HB.out]; exact hk))))
  have HZ := Lib.hid hz
  clear hz HB
  generalize hN : cs.length = n at *
  have HN := Lib.hid hN
  clear hN
  go_enter Try.func27, Try.ntmps27
  go_wp2
  go_loopw [22] (fun i wr => ∃ k : Nat, i = .int .i64 k ∧ k ≤ n ∧ Hid (ClsTo vars (bareC cs) k) ∧ Hid (Below (w.alloc (.cells #[.int .i64 vars, .slice sl n cap] 45)).heap.size (w.alloc (.cells #[.int .i64 vars, .slice sl n cap] 45)) wr)) (fun i _ => n - (intOf i).toNat)
  case atStart => exact ⟨0, rfl, Nat.zero_le _, ClsTo.zero _ _, Below.refl _ _⟩
  case round =>
    obtain ⟨k, rfl, hk, IT, H2⟩ := hrel
    have hk0 : (0 : Int) ≤ (k : Int) := by omega
    have DW := Lib.hid (bT B0.out H2.out)
    by_cases g1 : k < n
    · have g1' : (k : Int) < (n : Int) := by omega
      have hlt : k < cs.length := by rw [HN.out]; exact g1
      have TA := CA.out.below H2.out
      obtain ⟨t0, t1⟩ := TA.cells
      have tl := TA.lt
      obtain ⟨c, o, rfl, Z0⟩ := HZ.out.at hlt
      have hc := (Z0.below DW.out).2 k hlt
      obtain ⟨s1, k1, v1, i1, l1⟩ := (HZ.out.each cs[k] (List.getElem_mem hlt)).below DW.out
      rw [v1] at hc
      have E := Lib.hid (clr_any vars s1 k1 cs[k].2 wr i1)
      have BG := Lib.hid (bareC_get hlt)
      cases hb : B (ClR vars cs[k].2) with
      | true =>
        rw [hb] at E
        have IT2 := Lib.hid (IT.out.step (by rw [BG.out]; exact B_true hb))
        clear hb IT i1 l1 Z0 TA v1 BG
        generalize cs[k].2.length = q at *
        clear hlt
        go_wp2_with fail
        refine E.out.mono ?_
        rintro e w5 ⟨rfl, b5⟩
        have D5 := Lib.hid (bT H2.out b5)
        clear b5 E
        go_wp2
        go_roundw
        case rel => exact ⟨k + 1, by go_num, by omega, IT2, D5⟩
        case measure => simp [intOf]; omega
      | false =>
        rw [hb] at E
        have NO := Lib.hid (NN.out k g1 (by rw [BG.out]; exact B_false hb))
        clear hb IT i1 l1 Z0 TA v1 BG
        generalize cs[k].2.length = q at *
        clear hlt
        go_wp2_with fail
        refine E.out.mono ?_
        rintro e w5 ⟨rfl, b5⟩
        have D5 := Lib.hid (bT DW.out b5)
        clear b5 E
        go_wp2
        go_ret
        exact ⟨by rw [NO.out]; rfl, D5.out⟩
    · have g1' : ¬ (k : Int) < (n : Int) := by omega
      have YES := Lib.hid (YY.out k (by omega) IT.out)
      clear IT
      go_wp2
      go_ret
      exact ⟨by rw [YES.out]; rfl, DW.out⟩

end Go.Proofs.Ytdmfljejlhlbnaa
namespace Go.Proofs.Ytdmfljejlhlbnaa
open Go.RowKit
set_option linter.unusedVariables false

/-- A literal of a variable up to vars. -/
def OkZ (vars z : Int) : Prop := z ≠ 0 ∧ z ≤ vars ∧ -vars ≤ z
/-- The one at i is of another variable than the first k. -/
def ApartQ (zs : List Int) (i k : Nat) : Prop := ∀ j, j < k → zs.getD j 0 ≠ zs.getD i 0 ∧ zs.getD j 0 ≠ -zs.getD i 0
def SpTo (vars : Int) (zs : List Int) (n : Nat) : Prop := ∀ i, i < n → OkZ vars (zs.getD i 0) ∧ ApartQ zs i i
theorem SpTo.zero (vars : Int) (zs : List Int) : SpTo vars zs 0 := fun i h => absurd h (Nat.not_lt_zero _)
theorem SpTo.step {vars : Int} {zs : List Int} {k : Nat} (h : SpTo vars zs k) (g : OkZ vars (zs.getD k 0)) (a : ApartQ zs k k) : SpTo vars zs (k + 1) := fun i hi => by
  by_cases e : i = k
  · subst e; exact ⟨g, a⟩
  · exact h i (by omega)
theorem ApartQ.zero (zs : List Int) (i : Nat) : ApartQ zs i 0 := fun j h => absurd h (Nat.not_lt_zero _)
theorem ApartQ.step {zs : List Int} {i k : Nat} (h : ApartQ zs i k) (g1 : zs.getD k 0 ≠ zs.getD i 0) (g2 : zs.getD k 0 ≠ -zs.getD i 0) : ApartQ zs i (k + 1) := fun j hj => by
  by_cases e : j = k
  · subst e; exact ⟨g1, g2⟩
  · exact h j (by omega)

end Go.Proofs.Ytdmfljejlhlbnaa
namespace Go.Proofs.Ytdmfljejlhlbnaa
open Go.RowKit Go.Shelf
set_option linter.unusedVariables false
attribute [local go_sem] Oper.semAt_some

/-- One of the literals is true. -/
def ClT (ts zs : List Int) : Prop := ∃ z ∈ zs, (lv z ∈ ts ↔ 0 < z)
def NoT (ts zs : List Int) : Prop := ∀ z ∈ zs, ¬ (lv z ∈ ts ↔ 0 < z)
theorem NoT.nil (ts : List Int) : NoT ts [] := fun z h => absurd h List.not_mem_nil
theorem NoT.step {ts pre : List Int} {x : Int} (h : NoT ts pre) (g : ¬ (lv x ∈ ts ↔ 0 < x)) : NoT ts (pre ++ [x]) := fun z hz => by
  rcases List.mem_append.1 hz with hz | hz
  · exact h z hz
  · rw [List.mem_singleton.1 hz]; exact g
theorem ClT.prefix {ts pre zs : List Int} (h : pre <+: zs) (g : ClT ts pre) : ClT ts zs := by
  obtain ⟨z, hz, e⟩ := g
  exact ⟨z, h.subset hz, e⟩
theorem NoT.no {ts zs : List Int} (h : NoT ts zs) : ¬ ClT ts zs := fun ⟨z, hz, e⟩ => h z hz e

set_option maxRecDepth 100000 in
set_option maxHeartbeats 4000000 in
/-- impl.clauseTrue. -/
theorem clt_any (sl : Option Addr) (cap : Nat) (zs : List Int) (sl2 : Option Addr) (cap2 : Nat) (ts : List Int) (w : World) (hn : zs.length ≤ 1048576) (hm : ts.length ≤ 1048576) (hz : Ints w sl zs) (ht : Ints w sl2 ts) :
    Calls Try.prog 93 #[.slice sl zs.length cap, .slice sl2 ts.length cap2] w fun e w' => e = .returned (.bool (B (ClT ts zs))) ∧ Below w.heap.size w w' := by
  have HZ : Hid (∀ W, Below w.heap.size w W → zs = [] ∨ ∃ b off, sl = some ⟨b, off, none⟩ ∧ b < w.heap.size ∧ ∀ j, j < zs.length → W.cell? ⟨b, off + j, none⟩ = some (.int .i64 (zs[j]?.getD 0))) := fun W hW => by
    rcases hz with e | ⟨c, o, e, hl, hc⟩
    · exact .inl e
    · exact .inr ⟨c, o, e, hl, fun j hj => (hW.cell (p := ⟨c, o + j, none⟩) hl).trans (by rw [hc j hj]; simp)⟩
  have HT : Hid (∀ x W, Below w.heap.size w W → Calls Try.prog 78 #[.slice sl2 ts.length cap2, .int .i64 x] W fun e w' => e = .returned (.bool (B (x ∈ ts))) ∧ Below W.heap.size W w') := fun x W hW => has_any sl2 cap2 x ts W hm (ht.below hW)
  have HN := Lib.hid hn
  clear hz hn ht hm
  generalize ts.length = m at *
  refine (callsIn_wide (n := 6)).1 ?_
  refine callsIn_of_wp_marks Try.func93 rfl trivial ?_ rfl
  simp only [Try.ntmps93, List.size_toArray, List.length_cons, List.length_nil, Nat.reduceAdd, Nat.reduceSub, Array.replicate_succ, Array.replicate_zero, List.push_toArray, List.append_toArray, List.nil_append, List.cons_append]
  gi_wp2_with (refine ⟨trivial, ?_⟩; gi_at_call 134; refine (lits_in Fence.wide _ trivial rfl _ _ _ _).mono ?_; rintro e w' ⟨rfl, rfl⟩)
  have bT0 := Boxed.new w 40 (.slice sl2 m cap2)
  have bR := Boxed.new (w.alloc (.cells #[.slice sl2 m cap2] 40)) 4 (.bool false)
  have bC := Boxed.new ((w.alloc (.cells #[.slice sl2 m cap2] 40)).alloc (.cells #[.bool false] 4)) 40 (.slice sl zs.length cap)
  simp only [World.size_alloc] at bR bC
  have hB0 : Below w.heap.size w (((w.alloc (.cells #[.slice sl2 m cap2] 40)).alloc (.cells #[.bool false] 4)).alloc (.cells #[.slice sl zs.length cap] 40)) := bA (bA (bA0 _ _) _) _
  refine wpIn_rangeFunc_ownG rfl (by omega) (gf := 149) (lb := #[.pointer (some ⟨w.heap.size + 1 + 1, 0, none⟩)]) rfl trivial (enters_of Try.func149 (by kernel_rfl) rfl)
    (lits_stops Fence.wide _ trivial rfl (by omega) (w.heap.size + 1 + 1) w.heap.size sl cap zs HN.out _ (by simp) (by simp; omega) bC.cell (HZ.out _ hB0)) belowK_t (belowK_b (by simp; omega)) (Below.refl _ _) (fun _ => rfl)
    (fun pre W => Boxed W w.heap.size 40 (.slice sl2 m cap2) ∧ Boxed W (w.heap.size + 1) 4 (.bool false) ∧ NoT ts pre ∧ Below w.heap.size w W)
    (fun c pre W => Boxed W (w.heap.size + 1) 4 (.bool true) ∧ (c = .ret ∧ ClT ts pre) ∧ Below w.heap.size w W)
    (OwnFrom.and (Own.from (boxed_own _ _ _) _) (OwnFrom.and (Own.from (boxed_own _ _ _) _) (OwnFrom.and (ownFrom_pure _ _) (ownFrom_below (Nat.le_refl _) (by simp; omega)))))
    (fun c => OwnFrom.and (Own.from (boxed_own _ _ _) _) (OwnFrom.and (ownFrom_pure _ _) (ownFrom_below (Nat.le_refl _) (by simp; omega))))
    ⟨(bT0.alloc _).alloc _, bR.alloc _, NoT.nil ts, hB0⟩
    (fun x => { tmps := #[.slice sl zs.length cap, .slice sl2 m cap2, undef, .pointer (some ⟨w.heap.size, 0, none⟩), .pointer (some ⟨w.heap.size + 1, 0, none⟩), .int .i64 (lv x), .bool (decide (0 < x)), .slice sl zs.length cap, .func (.func 149) #[] #[.pointer (some ⟨w.heap.size + 1 + 1, 0, none⟩)], .int .i64 (lv x), .bool (decide (0 < x)), undef, undef, undef, undef, undef], defers := [] }) ?assign ?body ?done ?stop
  case assign =>
    intro l x W K hK
    gi_wp2
    exact hK
  case body =>
    rintro l pre x W ⟨bT1, bR, hG, hB⟩ hlt
    have hc := bT1.cell
    have E := Lib.hid (HT.out (lv x) W hB)
    have hk1 : 1 ≤ 6 - 1 - 1 := by omega
    have HG := Lib.hid hG
    clear hG
    cases hb : B (lv x ∈ ts) with
    | true =>
      rw [hb] at E
      cases hx : decide (0 < x) with
      | true =>
        have YG := Lib.hid (show ClT ts (pre ++ [x]) from ⟨x, by simp, ⟨fun _ => of_decide_eq_true hx, fun _ => B_true hb⟩⟩)
        clear hb hx
        generalize lv x = y at *
        gi_wp2_with (refine ⟨trivial, ?_⟩; gi_at_call 78; refine (CallsIn.inRound l (callsIn_wide.2 E.out)).mono ?_; rintro e w1 ⟨rfl, b1⟩; have bR1 := boxB bR b1; have hcr1 := bR1.cell; have hfr1 := bR1.frozen)
        exact ⟨(keeps_below b1).trans ((KeepsOthers.setCell _ _ _).from _), bR1.set _, ⟨rfl, YG.out⟩, (bT hB b1).setCell (p := ⟨w.heap.size + 1, 0, none⟩) (by simp) _⟩
      | false =>
        have NG := Lib.hid (HG.out.step (x := x) (fun g => of_decide_eq_false hx (g.1 (B_true hb))))
        clear hb hx
        generalize lv x = y at *
        gi_wp2_with (refine ⟨trivial, ?_⟩; gi_at_call 78; refine (CallsIn.inRound l (callsIn_wide.2 E.out)).mono ?_; rintro e w1 ⟨rfl, b1⟩)
        exact ⟨keeps_below b1, b1.mono hB.size, boxB bT1 b1, boxB bR b1, NG.out, bT hB b1⟩
    | false =>
      rw [hb] at E
      cases hx : decide (0 < x) with
      | true =>
        have NG := Lib.hid (HG.out.step (x := x) (fun g => B_false hb (g.2 (of_decide_eq_true hx))))
        clear hb hx
        generalize lv x = y at *
        gi_wp2_with (refine ⟨trivial, ?_⟩; gi_at_call 78; refine (CallsIn.inRound l (callsIn_wide.2 E.out)).mono ?_; rintro e w1 ⟨rfl, b1⟩)
        exact ⟨keeps_below b1, b1.mono hB.size, boxB bT1 b1, boxB bR b1, NG.out, bT hB b1⟩
      | false =>
        have YG := Lib.hid (show ClT ts (pre ++ [x]) from ⟨x, by simp, ⟨fun h => absurd h (B_false hb), fun h => absurd h (of_decide_eq_false hx)⟩⟩)
        clear hb hx
        generalize lv x = y at *
        gi_wp2_with (refine ⟨trivial, ?_⟩; gi_at_call 78; refine (CallsIn.inRound l (callsIn_wide.2 E.out)).mono ?_; rintro e w1 ⟨rfl, b1⟩; have bR1 := boxB bR b1; have hcr1 := bR1.cell; have hfr1 := bR1.frozen)
        exact ⟨(keeps_below b1).trans ((KeepsOthers.setCell _ _ _).from _), bR1.set _, ⟨rfl, YG.out⟩, (bT hB b1).setCell (p := ⟨w.heap.size + 1, 0, none⟩) (by simp) _⟩
  case done =>
    rintro D ys W hD rfl ⟨-, bR, hG, hB⟩ hK
    have hcr := bR.cell
    have hfr := bR.frozen
    gi_wp2
    have hK' := (KeepsOthers.setCell W ⟨w.heap.size + 1, 0, none⟩ (.bool false)).same D _ hK rfl
    refine ⟨by simp, .inl ⟨_, _, rfl, run_takeDeferred hK', ?_⟩⟩
    have hc5 := cell_kept (World.cell?_setCell_same' W ⟨w.heap.size + 1, 0, none⟩ (.bool false) (by rw [hcr]; rfl)) (grownBy_putObj' _ D (.deferred none)) (fun r e => by cases e; exact ⟨_, hK', rfl⟩)
    refine ⟨.bool false, ?_, by rw [B_no hG.no], (hB.setCell (p := ⟨w.heap.size + 1, 0, none⟩) (by simp) _).trans (belowK_b (w := w) (Nat.le_refl _) _ D _ _ (by simp at hD; omega) hK' rfl rfl)⟩
    simp [results, Try.f93, go_sem, hc5]
  case stop =>
    rintro D c pre W hD hpre ⟨bR, ⟨rfl, hG⟩, hB⟩ hK
    have hcr := bR.cell
    gi_wp2
    refine ⟨by simp, .inl ⟨_, _, rfl, run_takeDeferred hK, ?_⟩⟩
    have hc5 := cell_kept hcr (grownBy_putObj' _ D (.deferred none)) (fun r e => by cases e; exact ⟨_, hK, rfl⟩)
    refine ⟨.bool true, ?_, by rw [B_yes (hG.prefix hpre)], hB.trans (belowK_b (w := w) (Nat.le_refl _) W D _ _ (by simp at hD; omega) hK rfl rfl)⟩
    simp [results, Try.f93, go_sem, hc5]

end Go.Proofs.Ytdmfljejlhlbnaa
namespace Go.Proofs.Ytdmfljejlhlbnaa
open Go.RowKit
set_option linter.unusedVariables false

/-- The first k clauses are true. -/
def TrTo (ts : List Int) (zss : List (List Int)) (k : Nat) : Prop := ∀ i, i < k → ClT ts (zss.getD i [])
theorem TrTo.zero (ts : List Int) (zss : List (List Int)) : TrTo ts zss 0 := fun i h => absurd h (Nat.not_lt_zero _)
theorem TrTo.step {ts : List Int} {zss : List (List Int)} {k : Nat} (h : TrTo ts zss k) (g : ClT ts (zss.getD k [])) : TrTo ts zss (k + 1) := fun i hi => by
  by_cases e : i = k
  · subst e; exact g
  · exact h i (by omega)
def FstNo (ts : List Int) (zss : List (List Int)) (k : Nat) : Prop := k < zss.length ∧ TrTo ts zss k ∧ ¬ ClT ts (zss.getD k [])
open Classical in
/-- The place of the first clause that is not true; -1 if all are. -/
noncomputable def fF (ts : List Int) (zss : List (List Int)) : Int := if h : ∃ k, FstNo ts zss k then (Classical.choose h : Nat) else -1
theorem fF_at {ts : List Int} {zss : List (List Int)} {k : Nat} (h : FstNo ts zss k) : fF ts zss = k := by
  have hex : ∃ k, FstNo ts zss k := ⟨k, h⟩
  unfold fF
  rw [dif_pos hex]
  have hs := Classical.choose_spec hex
  generalize Classical.choose hex = j at *
  have : ¬ j < k := fun g => hs.2.2 (h.2.1 j g)
  have : ¬ k < j := fun g => h.2.2 (hs.2.1 k g)
  omega
theorem fF_all {ts : List Int} {zss : List (List Int)} {k : Nat} (hk : zss.length ≤ k) (h : TrTo ts zss k) : fF ts zss = -1 := by
  unfold fF
  rw [dif_neg]
  rintro ⟨j, g⟩
  exact g.2.2 (h j (by have := g.1; omega))
open Classical in
/-- What CnfFault answers. -/
noncomputable def fC (vars : Int) (zss : List (List Int)) (ts : List Int) : Int := if 400 < ts.length then 0 else if CnfR vars zss ∧ InRise 1 vars ts then fF ts zss else -2
theorem fC_long {vars : Int} {zss : List (List Int)} {ts : List Int} (h : 400 < ts.length) : fC vars zss ts = 0 := by unfold fC; rw [if_pos h]
theorem fC_no {vars : Int} {zss : List (List Int)} {ts : List Int} (h : ¬ 400 < ts.length) (g : ¬ (CnfR vars zss ∧ InRise 1 vars ts)) : fC vars zss ts = -2 := by unfold fC; rw [if_neg h, if_neg g]
theorem fC_yes {vars : Int} {zss : List (List Int)} {ts : List Int} (h : ¬ 400 < ts.length) (g : CnfR vars zss ∧ InRise 1 vars ts) : fC vars zss ts = fF ts zss := by unfold fC; rw [if_neg h, if_pos g]

set_option maxRecDepth 100000 in
set_option maxHeartbeats 4000000 in
/-- impl.CnfFault. -/
theorem icf_any (vars : Int) (sl : Option Addr) (cap : Nat) (cs : List LCl) (sl2 : Option Addr) (cap2 : Nat) (ts : List Int) (w : World) (hn : cs.length ≤ maxLen) (hm : ts.length ≤ maxLen) (hz : Cls w sl cs) (ht : Ints w sl2 ts) :
    Calls Try.prog 31 #[CV vars sl cs.length cap, .slice sl2 ts.length cap2] w fun e w' => e = .returned (.int .i64 (fC vars (bareC cs) ts)) ∧ Below w.heap.size w w' := by
  have CA := Lib.hid (CnfAt.new w vars sl cs.length cap)
  have B0 := Lib.hid (bA0 w (.cells #[.int .i64 vars, .slice sl cs.length cap] 45))
  have HB := Lib.hid (bareC_length cs)
  by_cases c1 : 400 < ts.length
  · rw [fC_long c1]
    have c1' : (400 : Int) < (ts.length : Int) := by omega
    clear hz ht HB
    unfold maxLen at hm
    generalize cs.length = n at *
    generalize ts.length = m at *
    go_enter Try.func31, Try.ntmps31
    go_wp2
    go_ret
    exact ⟨rfl, B0.out⟩
  have c1' : ¬ (400 : Int) < (ts.length : Int) := by omega
  have E1 : Hid (∀ W, Below w.heap.size w W → Calls Try.prog 27 #[CV vars sl cs.length cap] W fun e w' => e = .returned (.bool (B (CnfR vars (bareC cs)))) ∧ Below W.heap.size W w') := fun W hW => icr_any vars sl cap cs W hn (hz.below hW)
  have E2 : Hid (∀ W, Below w.heap.size w W → Calls Try.prog 92 #[.slice sl2 ts.length cap2, .int .i64 1, .int .i64 vars] W fun e w' => e = .returned (.bool (B (InRise 1 vars ts))) ∧ Below W.heap.size W w') := fun W hW => rw_any 1 vars sl2 cap2 ts W hm (ht.below hW)
  unfold maxLen at hm hn
  cases hb : B (CnfR vars (bareC cs)) with
  | false =>
    rw [fC_no c1 (fun g => B_false hb g.1)]
    rw [hb] at E1
    clear hb hz ht HB E2
    generalize cs.length = n at *
    generalize ts.length = m at *
    go_enter Try.func31, Try.ntmps31
    go_wp2_with fail
    refine (E1.out _ B0.out).mono ?_
    rintro e w1 ⟨rfl, b1⟩
    have D1 := Lib.hid (bT B0.out b1)
    clear b1 E1
    go_wp2
    go_ret
    exact ⟨rfl, D1.out⟩
  | true =>
    rw [hb] at E1
    cases hc : B (InRise 1 vars ts) with
    | false =>
      rw [fC_no c1 (fun g => B_false hc g.2)]
      rw [hc] at E2
      clear hb hc hz ht HB
      generalize cs.length = n at *
      generalize ts.length = m at *
      go_enter Try.func31, Try.ntmps31
      go_wp2_with fail
      refine (E1.out _ B0.out).mono ?_
      rintro e w1 ⟨rfl, b1⟩
      have D1 := Lib.hid (bT B0.out b1)
      have TA := CA.out.below b1
      obtain ⟨t0, t1⟩ := TA.cells
      have tl := TA.lt
      clear b1 E1 TA
      go_wp2_with fail
      refine (E2.out _ D1.out).mono ?_
      rintro e w2 ⟨rfl, b2⟩
      have D2 := Lib.hid (bT D1.out b2)
      clear b2 E2
      go_wp2
      go_ret
      exact ⟨rfl, D2.out⟩
    | true =>
      rw [hc] at E2
      have CR := Lib.hid (B_true hb)
      have FV := Lib.hid (fC_yes c1 ⟨B_true hb, B_true hc⟩)
      have YY := Lib.hid (show ∀ k, cs.length ≤ k → TrTo ts (bareC cs) k → fC vars (bareC cs) ts = -1 from fun k hk h => FV.out.trans (fF_all (by rw [HB.out]; exact hk) h))
      have NN := Lib.hid (show ∀ k, k < cs.length → TrTo ts (bareC cs) k → ¬ ClT ts ((bareC cs).getD k []) → fC vars (bareC cs) ts = k from fun k hk h g => FV.out.trans (fF_at ⟨by rw [HB.out]; exact hk, h, g⟩))
      have HZ := Lib.hid hz
      have HT := Lib.hid ht
      have HM := Lib.hid (show ts.length ≤ 1048576 by omega)
      have HC := Lib.hid (show ∀ r ∈ cs, r.2.length ≤ 1048576 from fun r hr => by
        obtain ⟨k, h, rfl⟩ := List.getElem_of_mem hr
        have := (CR.out.2.2 k (by rw [HB.out]; exact h)).1
        rw [bareC_get h] at this
        omega)
      clear hz ht HB hb hc FV CR
      generalize hN : cs.length = n at *
      have HN := Lib.hid hN
      clear hN
      have EK : Hid (∀ r ∈ cs, ∀ s1 k1 W, Below w.heap.size w W → Ints W s1 r.2 → Calls Try.prog 93 #[.slice s1 r.2.length k1, .slice sl2 ts.length cap2] W fun e w' => e = .returned (.bool (B (ClT ts r.2))) ∧ Below W.heap.size W w') := fun r h s1 k1 W hW i => clt_any s1 k1 r.2 sl2 cap2 ts W (HC.out r h) HM.out i (HT.out.below hW)
      clear HT HM HC
      generalize ts.length = m at *
      go_enter Try.func31, Try.ntmps31
      go_wp2_with fail
      refine (E1.out _ B0.out).mono ?_
      rintro e w1 ⟨rfl, b1⟩
      have D1 := Lib.hid (bT B0.out b1)
      have TA := CA.out.below b1
      obtain ⟨t0, t1⟩ := TA.cells
      have tl := TA.lt
      have CA1 := Lib.hid TA
      clear b1 E1 TA CA
      go_wp2_with fail
      refine (E2.out _ D1.out).mono ?_
      rintro e w2 ⟨rfl, b2⟩
      have D2 := Lib.hid (bT D1.out b2)
      have TA := CA1.out.below b2
      clear t0 t1 tl
      obtain ⟨t0, t1⟩ := TA.cells
      have tl := TA.lt
      have CA2 := Lib.hid TA
      clear b2 E2 TA CA1 D1
      go_wp2
      clear t0 t1 tl
      go_loopw [23] (fun i wr => ∃ k : Nat, i = .int .i64 k ∧ k ≤ n ∧ Hid (TrTo ts (bareC cs) k) ∧ Hid (Below w2.heap.size w2 wr)) (fun i _ => n - (intOf i).toNat)
      case atStart => exact ⟨0, rfl, Nat.zero_le _, TrTo.zero _ _, Below.refl _ _⟩
      case round =>
        obtain ⟨k, rfl, hk, IT, H2⟩ := hrel
        have hk0 : (0 : Int) ≤ (k : Int) := by omega
        have DW := Lib.hid (bT D2.out H2.out)
        by_cases g1 : k < n
        · have g1' : (k : Int) < (n : Int) := by omega
          have hlt : k < cs.length := by rw [HN.out]; exact g1
          obtain ⟨c, o, rfl, Z0⟩ := HZ.out.at hlt
          have hc := (Z0.below DW.out).2 k hlt
          obtain ⟨s1, k1, v1, i1, l1⟩ := (HZ.out.each cs[k] (List.getElem_mem hlt)).below DW.out
          rw [v1] at hc
          have E := Lib.hid (EK.out cs[k] (List.getElem_mem hlt) s1 k1 wr DW.out i1)
          have BG := Lib.hid (bareC_get hlt)
          cases hb : B (ClT ts cs[k].2) with
          | true =>
            rw [hb] at E
            have IT2 := Lib.hid (IT.out.step (by rw [BG.out]; exact B_true hb))
            clear hb IT i1 l1 Z0 v1 BG
            generalize cs[k].2.length = q at *
            clear hlt EK
            go_wp2_with fail
            refine E.out.mono ?_
            rintro e w5 ⟨rfl, b5⟩
            have D5 := Lib.hid (bT H2.out b5)
            clear b5 E
            go_wp2
            go_roundw
            case rel => exact ⟨k + 1, by go_num, by omega, IT2, D5⟩
            case measure => simp [intOf]; omega
          | false =>
            rw [hb] at E
            have NO := Lib.hid (NN.out k g1 IT.out (by rw [BG.out]; exact B_false hb))
            clear hb IT i1 l1 Z0 v1 BG
            generalize cs[k].2.length = q at *
            clear hlt EK
            go_wp2_with fail
            refine E.out.mono ?_
            rintro e w5 ⟨rfl, b5⟩
            have D5 := Lib.hid (bT DW.out b5)
            clear b5 E
            go_wp2
            go_ret
            exact ⟨by rw [NO.out]; rfl, D5.out⟩
        · have g1' : ¬ (k : Int) < (n : Int) := by omega
          have YES := Lib.hid (YY.out k (by omega) IT.out)
          clear IT EK
          go_wp2
          go_ret
          exact ⟨by rw [YES.out]; rfl, DW.out⟩

set_option maxRecDepth 100000 in
set_option maxHeartbeats 1000000 in
/-- impl.CnfTrue. -/
theorem ict_any (vars : Int) (sl : Option Addr) (cap : Nat) (cs : List LCl) (sl2 : Option Addr) (cap2 : Nat) (ts : List Int) (w : World) (hn : cs.length ≤ maxLen) (hm : ts.length ≤ maxLen) (hz : Cls w sl cs) (ht : Ints w sl2 ts) :
    Calls Try.prog 30 #[CV vars sl cs.length cap, .slice sl2 ts.length cap2] w fun e w' => e = .returned (.bool (fC vars (bareC cs) ts == -1)) ∧ Below w.heap.size w w' := by
  have B0 := Lib.hid (bA0 w (.cells #[.int .i64 vars, .slice sl cs.length cap] 45))
  have E1 := Lib.hid (icf_any vars sl cap cs sl2 cap2 ts _ hn hm (hz.below B0.out) (ht.below B0.out))
  clear hz ht hn hm
  generalize fC vars (bareC cs) ts = f at *
  generalize cs.length = n at *
  generalize ts.length = m at *
  go_enter Try.func30, Try.ntmps30
  go_wp2_with fail
  refine E1.out.mono ?_
  rintro e w1 ⟨rfl, b1⟩
  have D1 := Lib.hid (bT B0.out b1)
  clear b1 E1
  go_wp2
  go_ret
  exact ⟨rfl, D1.out⟩

end Go.Proofs.Ytdmfljejlhlbnaa
namespace Go.Proofs.Ytdmfljejlhlbnaa
open Go.RowKit
set_option linter.unusedVariables false

theorem lv_pos {z : Int} (h : 0 < z) (h2 : z ≤ 100000) : lv z = z := by
  unfold lv wrap64
  rw [Int.max_def]; split <;> omega
theorem lv_neg {z : Int} (h : 0 < z) (h2 : z ≤ 100000) : lv (-z) = z := by
  unfold lv wrap64
  rw [Int.max_def]; split <;> omega
theorem nb_mem {V : List LPl} {e : LNb} (h : e ∈ nbF 0 V) : ∃ m, ∃ hm : m < V.length, e = (V[m], (m : Int) + 1) := by
  obtain ⟨m, hm, rfl⟩ := List.getElem_of_mem h
  rw [nbF_len] at hm
  refine ⟨m, hm, ?_⟩
  rw [nbF_at V 0 m hm]
  simp
theorem nb_in {V : List LPl} (m : Nat) (hm : m < V.length) : (V[m], (m : Int) + 1) ∈ nbF 0 V := by
  have := List.getElem_mem (l := nbF 0 V) (n := m) (by rw [nbF_len]; exact hm)
  rw [nbF_at V 0 m hm] at this
  simpa using this
theorem nb_up (V : List LPl) : (nbF 0 V).Pairwise (fun x y => x.2 < y.2) := by
  rw [List.pairwise_iff_getElem]
  intro i j hi hj hij
  rw [nbF_len] at hi hj
  rw [nbF_at V 0 i hi, nbF_at V 0 j hj]
  show (0 : Int) + i + 1 < 0 + j + 1
  omega
theorem tr_mem (pl V : List LPl) (v : Int) : v ∈ trK pl V V.length ↔ ∃ m, ∃ hm : m < V.length, v = (m : Int) + 1 ∧ V[m] ∈ pl := by
  unfold trK
  rw [List.mem_map]
  constructor
  · rintro ⟨m, hm, rfl⟩
    rw [List.mem_filter, List.mem_range] at hm
    have := B_true hm.2
    refine ⟨m, hm.1, rfl, ?_⟩
    simpa [hm.1] using this
  · rintro ⟨m, hm, rfl, h⟩
    refine ⟨m, ?_, rfl⟩
    rw [List.mem_filter, List.mem_range]
    exact ⟨hm, B_yes (by simpa [hm] using h)⟩
theorem twoS_mem : ∀ (l : List LNb), l.Pairwise (fun x y => x.2 < y.2) → ∀ zs ∈ twoS l, ∃ x ∈ l, ∃ y ∈ l, x.2 < y.2 ∧ x.1.1 = y.1.1 ∧ zs = [-x.2, -y.2]
  | [], _, zs, h => by simp [twoS] at h
  | x :: r, hp, zs, h => by
    rw [List.pairwise_cons] at hp
    unfold twoS at h
    rcases List.mem_append.1 h with h | h
    · obtain ⟨y, hy, rfl⟩ := List.mem_map.1 h
      unfold ofId at hy
      rw [List.mem_filter] at hy
      have e : y.1.1 = x.1.1 := by simpa using hy.2
      exact ⟨x, by simp, y, by simp [hy.1], hp.1 y hy.1, e.symm, rfl⟩
    · obtain ⟨a, ha, b, hb, h1⟩ := twoS_mem r hp.2 zs h
      exact ⟨a, by simp [ha], b, by simp [hb], h1⟩
theorem rise_ne {lo hi : Int} {zs : List Int} (h : InRise lo hi zs) : zs.Pairwise (· ≠ ·) := by
  rw [List.pairwise_iff_getElem]
  intro i j hi' hj hij
  have := rise_lt zs lo hi h i j hij hj
  simp [hi', hj] at this
  intro e
  rw [e] at this
  omega
theorem dom_ne (rs : List LSt) (ps : List LPr) (id top : Int) (h : TabR rs ps) : (rs.flatMap (domF id top)).Pairwise (· ≠ ·) := by
  by_cases hm : id ∈ idsL rs
  · obtain ⟨k, hk, ep, hid⟩ := pos_at rs id hm
    have hu : ∀ i (h : i < rs.length), i ≠ k → rs[i].1 ≠ id := fun i hi hne e => by
      have r := rise_ne h.2.2.1
      rw [List.pairwise_iff_getElem] at r
      rcases Nat.lt_or_gt_of_ne hne with g | g
      · exact r i k (by simpa [idsL] using hi) (by simpa [idsL] using hk) g (by rw [idsL_at rs i _ hi, idsL_at rs k _ hk, e, hid])
      · exact r k i (by simpa [idsL] using hk) (by simpa [idsL] using hi) g (by rw [idsL_at rs i _ hi, idsL_at rs k _ hk, e, hid])
    rw [flat_one id top rs k hk hid hu]
    exact (rise_ne (h.2.1 _ (List.getElem_mem hk)).2.2).filter _
  · rw [flat_none id top rs hm]; exact List.Pairwise.nil
theorem plF_ne {rs : List LSt} {ps : List LPr} (top : Int) (ids : List Int) (h : TabR rs ps) (hi : ids.Pairwise (· < ·)) : (plF rs top ids).Pairwise (· ≠ ·) := by
  unfold plF
  rw [List.pairwise_flatMap]
  refine ⟨fun id _ => ?_, hi.imp (fun {a b} hab x hx y hy e => ?_)⟩
  · unfold chF
    rw [List.pairwise_map]
    exact (dom_ne rs ps id top h).imp (fun {a b} hab e => hab (by injection e))
  · unfold chF at hx hy
    obtain ⟨c, _, rfl⟩ := List.mem_map.1 hx
    obtain ⟨d, _, rfl⟩ := List.mem_map.1 hy
    injection e with e1 e2
    omega
theorem one_id {rs : List LSt} {ps : List LPr} {pl : List LPl} (h : IdsR rs ps (pidsL pl)) {p q : LPl} (hp : p ∈ pl) (hq : q ∈ pl) (e : p.1 = q.1) : p = q := by
  have hd := ids_pair h
  unfold pidsL at hd
  rw [List.pairwise_map, List.pairwise_iff_getElem] at hd
  obtain ⟨i, hi, rfl⟩ := List.getElem_of_mem hp
  obtain ⟨j, hj, rfl⟩ := List.getElem_of_mem hq
  rcases Nat.lt_trichotomy i j with g | g | g
  · have := hd i j hi hj g; omega
  · subst g; rfl
  · have := hd j i hj hi g; omega
theorem may_both {rs : List LSt} {ps : List LPr} {top : Int} {pl : List LPl} (h : PlanOk rs ps top pl) {p q : LPl} (hp : p ∈ pl) (hq : q ∈ pl) (hne : p ≠ q) : mayL ps p.1 p.2 q.1 q.2 = true := by
  have hm := h.may
  rw [List.pairwise_iff_getElem] at hm
  obtain ⟨i, hi, rfl⟩ := List.getElem_of_mem hp
  obtain ⟨j, hj, rfl⟩ := List.getElem_of_mem hq
  rcases Nat.lt_trichotomy i j with g | g | g
  · exact hm i j hi hj g
  · subst g; exact absurd rfl hne
  · rw [may_sym rs ps h.ids.2.1]; exact hm j i hj hi g
/-- One of two is not in the plan: the clause of both is true. -/
theorem two_true {ts : List Int} {x y : Int} (hx : 0 < x ∧ x ≤ 100000) (hy : 0 < y ∧ y ≤ 100000) (h : ¬ (x ∈ ts ∧ y ∈ ts)) : ClT ts [-x, -y] := by
  by_cases h1 : x ∈ ts
  · exact ⟨-y, by simp, by rw [lv_neg hy.1 hy.2]; exact ⟨fun g => absurd ⟨h1, g⟩ h, fun g => by omega⟩⟩
  · exact ⟨-x, by simp, by rw [lv_neg hx.1 hx.2]; exact ⟨fun g => absurd g h1, fun g => by omega⟩⟩
/-- Every clause of a table is true of a right plan. -/
theorem plan_true {rs : List LSt} {ps : List LPr} {top : Int} {pl : List LPl} (h : PlanOk rs ps top pl) : ∀ zs ∈ cnA rs ps top (pidsL pl), ClT (trK pl (plF rs top (pidsL pl)) (plF rs top (pidsL pl)).length) zs := by
  have hV : (plF rs top (pidsL pl)).length ≤ 1152 := by
    have := plF_le top (pidsL pl) h.ids.2.1
    have := ids_few h.ids
    omega
  have hne := plF_ne top (pidsL pl) h.ids.2.1 (ids_pair h.ids)
  have hin : ∀ p ∈ pl, p ∈ plF rs top (pidsL pl) := fun p hp => by
    unfold plF chF
    rw [List.mem_flatMap]
    exact ⟨p.1, List.mem_map.2 ⟨p, hp, rfl⟩, List.mem_map.2 ⟨p.2, h.dom p hp, rfl⟩⟩
  intro zs hz
  rw [cnA_spec top h.ids] at hz
  generalize plF rs top (pidsL pl) = V at *
  rw [List.pairwise_iff_getElem] at hne
  rcases List.mem_append.1 hz with hz | hz
  · obtain ⟨id, hid, rfl⟩ := List.mem_map.1 hz
    obtain ⟨p, hp, rfl⟩ := List.mem_map.1 hid
    obtain ⟨m, hm, e⟩ := List.getElem_of_mem (hin p hp)
    refine ⟨(m : Int) + 1, ?_, ?_⟩
    · unfold ownA ofId
      rw [List.mem_map]
      exact ⟨(V[m], (m : Int) + 1), List.mem_filter.2 ⟨nb_in m hm, by simp [e]⟩, rfl⟩
    · rw [lv_pos (by omega) (by omega)]
      exact ⟨fun _ => by omega, fun _ => (tr_mem pl V _).2 ⟨m, hm, rfl, by rw [e]; exact hp⟩⟩
  rcases List.mem_append.1 hz with hz | hz
  · obtain ⟨x, hx, y, hy, hxy, hid, rfl⟩ := twoS_mem _ (nb_up V) zs hz
    obtain ⟨a, ha, rfl⟩ := nb_mem hx
    obtain ⟨b, hb, rfl⟩ := nb_mem hy
    dsimp only at hxy hid ⊢
    refine two_true ⟨by omega, by omega⟩ ⟨by omega, by omega⟩ (fun ⟨g1, g2⟩ => ?_)
    obtain ⟨a', ha', e1, p1⟩ := (tr_mem pl V _).1 g1
    obtain ⟨b', hb', e2, p2⟩ := (tr_mem pl V _).1 g2
    obtain rfl : a' = a := by omega
    obtain rfl : b' = b := by omega
    exact hne a' b' ha hb (by omega) (one_id h.ids p1 p2 hid)
  · obtain ⟨q, hq, hz⟩ := List.mem_flatMap.1 hz
    unfold besS at hz
    obtain ⟨x, hx, hz⟩ := List.mem_flatMap.1 hz
    obtain ⟨y, hy, hz⟩ := List.mem_flatMap.1 hz
    split at hz
    · rename_i hc
      obtain ⟨c1, c2, c3⟩ := hc
      rw [List.mem_singleton] at hz
      subst hz
      obtain ⟨a, ha, rfl⟩ := nb_mem hx
      obtain ⟨b, hb, rfl⟩ := nb_mem hy
      dsimp only at c1 c2 c3 ⊢
      refine two_true ⟨by omega, by omega⟩ ⟨by omega, by omega⟩ (fun ⟨g1, g2⟩ => ?_)
      obtain ⟨a', ha', e1, p1⟩ := (tr_mem pl V _).1 g1
      obtain ⟨b', hb', e2, p2⟩ := (tr_mem pl V _).1 g2
      obtain rfl : a' = a := by omega
      obtain rfl : b' = b := by omega
      have hlt : q.1 < q.2.1 := (h.ids.2.1.2.2.2.1 q hq).1
      have := may_both h p1 p2 (fun e => by rw [e] at c1; omega)
      rw [c1, c2] at this
      rw [this] at c3
      cases c3
    · simp at hz

end Go.Proofs.Ytdmfljejlhlbnaa
namespace Go.Proofs.Ytdmfljejlhlbnaa
open Go.RowKit
set_option linter.unusedVariables false

theorem fm_len {α β : Type} (f : α → List β) (m : Nat) : ∀ l : List α, (∀ x ∈ l, (f x).length ≤ m) → (l.flatMap f).length ≤ l.length * m := by
  intro l
  induction l with
  | nil => intro _; simp
  | cons x l ih =>
    intro h
    have h1 := h x (by simp)
    have h2 := ih (fun y hy => h y (by simp [hy]))
    rw [List.flatMap_cons, List.length_append, List.length_cons, Nat.add_mul]
    omega
end Go.Proofs.Ytdmfljejlhlbnaa
namespace Go.Proofs.Ytdmfljejlhlbnaa
open Go.RowKit
set_option linter.unusedVariables false

theorem dom_8 (rs : List LSt) (ps : List LPr) (id top : Int) (h : TabR rs ps) : (rs.flatMap (domF id top)).length ≤ 8 := by
  by_cases hm : id ∈ idsL rs
  · obtain ⟨k, hk, ep, hid⟩ := pos_at rs id hm
    have hu : ∀ i (h : i < rs.length), i ≠ k → rs[i].1 ≠ id := fun i hi hne e => by
      have r := rise_ne h.2.2.1
      rw [List.pairwise_iff_getElem] at r
      rcases Nat.lt_or_gt_of_ne hne with g | g
      · exact r i k (by simpa [idsL] using hi) (by simpa [idsL] using hk) g (by rw [idsL_at rs i _ hi, idsL_at rs k _ hk, e, hid])
      · exact r k i (by simpa [idsL] using hk) (by simpa [idsL] using hi) g (by rw [idsL_at rs i _ hi, idsL_at rs k _ hk, e, hid])
    rw [flat_one id top rs k hk hid hu]
    exact Nat.le_trans (List.length_filter_le _ _) (h.2.1 _ (List.getElem_mem hk)).2.1.2
  · rw [flat_none id top rs hm]; simp
theorem plF_96 {rs : List LSt} {ps : List LPr} (top : Int) (ids : List Int) (h : IdsR rs ps ids) : (plF rs top ids).length ≤ 96 := by
  have h1 : ∀ id ∈ ids, (chF rs top id).length ≤ 8 := fun id _ => by
    unfold chF; rw [List.length_map]; exact dom_8 rs ps id top h.2.1
  have := fm_len (chF rs top) 8 ids h1
  have := ids_few h
  unfold plF
  omega
theorem twoF_8 : ∀ zs : List Int, zs.length ≤ 8 → (twoF zs).length ≤ 8 * zs.length
  | [], _ => by simp [twoF]
  | x :: r, h => by
    simp only [List.length_cons] at h ⊢
    have := twoF_8 r (by omega)
    unfold twoF
    rw [List.length_append, List.length_map]
    omega
theorem besF_8 (ps : List LPr) (A C : List LNb) (ha : A.length ≤ 8) (hc : C.length ≤ 8) : (besF ps A C).length ≤ 64 := by
  have h1 : ∀ x ∈ A, (C.flatMap fun y => if mayL ps x.1.1 x.1.2 y.1.1 y.1.2 = true then [] else [[-x.2, -y.2]]).length ≤ 8 := fun x _ => by
    have := fm_len (fun y : LNb => if mayL ps x.1.1 x.1.2 y.1.1 y.1.2 = true then [] else [[-x.2, -y.2]]) 1 C (fun y _ => by split <;> simp)
    omega
  have := fm_len _ 8 A h1
  unfold besF
  omega
theorem nbs_8 (rs : List LSt) (ps : List LPr) (top : Int) (h : TabR rs ps) : ∀ (ids : List Int) (last : Int), ∀ b ∈ nbsF last (ids.map (chF rs top)), b.length ≤ 8 := by
  intro ids
  induction ids with
  | nil => intro last b hb; simp [nbsF] at hb
  | cons x r ih =>
    intro last b hb
    simp only [List.map_cons, nbsF, List.mem_cons] at hb
    rcases hb with rfl | hb
    · rw [nbF_len]; unfold chF; rw [List.length_map]; exact dom_8 rs ps x top h
    · exact ih _ b hb
theorem cnA_4000 {rs : List LSt} {ps : List LPr} (top : Int) {ids : List Int} (h : IdsR rs ps ids) : (cnA rs ps top ids).length ≤ 4000 := by
  unfold cnA
  rw [B_yes h, if_pos rfl]
  unfold cnfI
  have hb := nbs_8 rs ps top h.2.1 ids 0
  have hl : (nbsF 0 (ids.map (chF rs top))).length = ids.length := by rw [nbsF_len, List.length_map]
  generalize nbsF 0 (ids.map (chF rs top)) = bs at *
  have h12 := ids_few h
  have h40 := h.2.1.1.2.2
  have h1 := fm_len (fun b : List LNb => twoF (b.map fun e => e.2)) 64 bs (fun b hb' => by
    have := hb b hb'
    have := twoF_8 (b.map fun e => e.2) (by rw [List.length_map]; exact this)
    rw [List.length_map] at this
    omega)
  have hg : ∀ i, (bs.getD i []).length ≤ 8 := fun i => by
    by_cases hi : i < bs.length
    · simp only [List.getD_eq_getElem?_getD, List.getElem?_eq_getElem hi, Option.getD_some]; exact hb _ (List.getElem_mem hi)
    · simp [List.getD_eq_getElem?_getD, List.getElem?_eq_none (by omega : bs.length ≤ i)]
  have h2 := fm_len (besI ps ids bs) 64 ps (fun p _ => by
    unfold besI
    split
    · exact besF_8 ps _ _ (hg _) (hg _)
    · simp)
  simp only [List.length_append, List.length_map]
  omega
theorem good_two {vars x y : Int} (hx : 1 ≤ x ∧ x ≤ vars) (hy : 1 ≤ y ∧ y ≤ vars) (hv : vars ≤ 96) (hne : x ≠ y) : ClR vars [-x, -y] := by
  refine ⟨by simp, fun z hz => ?_, ?_⟩
  · simp only [List.mem_cons, List.not_mem_nil, or_false] at hz
    rcases hz with rfl | rfl
    · rw [lv_neg (by omega) (by omega)]; exact hx
    · rw [lv_neg (by omega) (by omega)]; exact hy
  · simp only [List.map_cons, List.map_nil]
    rw [lv_neg (by omega) (by omega), lv_neg (by omega) (by omega)]
    simp [hne]
/-- The clauses of a table are right. -/
theorem cnA_right {rs : List LSt} {ps : List LPr} (top : Int) {ids : List Int} (h : IdsR rs ps ids) : CnfR (cnN rs ps top ids : Nat) (cnA rs ps top ids) := by
  have hN : cnN rs ps top ids = (plF rs top ids).length := by unfold cnN; rw [B_yes h]; rfl
  have h96 := plF_96 top ids h
  have h4 := cnA_4000 top h
  have h8 : ∀ id, (ownA (plF rs top ids) id).length ≤ 96 := fun id => by
    unfold ownA ofId
    rw [List.length_map]
    exact Nat.le_trans (List.length_filter_le _ _) (by rw [nbF_len]; exact h96)
  have key : ∀ zs ∈ cnA rs ps top ids, ClR (cnN rs ps top ids : Nat) zs := by
    intro zs hz
    have hrow : ∀ b ∈ nbsF 0 (ids.map (chF rs top)), b.length ≤ 8 := nbs_8 rs ps top h.2.1 ids 0
    have hflat : (nbsF 0 (ids.map (chF rs top))).flatten = nbF 0 (plF rs top ids) := by rw [nbsF_flat]; rfl
    by_cases hown : zs ∈ (nbsF 0 (ids.map (chF rs top))).map (fun b => b.map fun e => e.2)
    · obtain ⟨b, hb, rfl⟩ := List.mem_map.1 hown
      have hsub : List.Sublist b (nbF 0 (plF rs top ids)) := by rw [← hflat]; exact List.sublist_flatten_of_mem hb
      have hup : (b.map fun e => e.2).Pairwise (· < ·) := by rw [List.pairwise_map]; exact (nb_up _).sublist hsub
      have hin : ∀ z ∈ (b.map fun e => e.2), 1 ≤ z ∧ z ≤ ((plF rs top ids).length : Int) := fun z hz => by
        obtain ⟨e, he, rfl⟩ := List.mem_map.1 hz
        obtain ⟨m, hm, rfl⟩ := nb_mem (hsub.subset he)
        exact ⟨by show (1 : Int) ≤ (m : Int) + 1; omega, by show (m : Int) + 1 ≤ _; omega⟩
      refine ⟨by rw [List.length_map]; have := hrow b hb; omega, fun z hz => ?_, ?_⟩
      · have := hin z hz
        rw [lv_pos (by omega) (by omega), hN]; exact this
      · have e : (b.map fun e => e.2).map lv = b.map fun e => e.2 := by
          rw [List.map_congr_left (g := id) (fun z hz => by have := hin z hz; rw [lv_pos (by omega) (by omega)]; rfl), List.map_id]
        rw [e]
        exact hup.imp (fun {a c} hab e => by omega)
    · have hz2 := hz
      unfold cnA at hz2
      rw [B_yes h, if_pos rfl] at hz2
      rw [cnA_spec top h] at hz
      have hz3 : zs ∈ twoS (nbF 0 (plF rs top ids)) ++ ps.flatMap (besS ps (nbF 0 (plF rs top ids))) := by
        unfold cnfI at hz2
        rcases List.mem_append.1 hz2 with g | g
        · exact absurd g hown
        · have e1 := cnf_same ps ids (nbsF 0 (ids.map (chF rs top))) (ofIds_ch rs top ids 0) ((ids_pair h).imp (fun {a b} hab e => by omega))
          unfold cnfI cnfS at e1
          rw [hflat] at e1
          have e2 := List.append_inj_right e1 (by rw [List.length_map, List.length_map, nbsF_len, List.length_map])
          rw [← e2]; exact g
      rw [hN]
      rcases List.mem_append.1 hz3 with hz3 | hz3
      · obtain ⟨x, hx, y, hy, hxy, _, rfl⟩ := twoS_mem _ (nb_up _) zs hz3
        obtain ⟨a, ha, rfl⟩ := nb_mem hx
        obtain ⟨b, hb, rfl⟩ := nb_mem hy
        dsimp only at hxy ⊢
        exact good_two ⟨by omega, by omega⟩ ⟨by omega, by omega⟩ (by omega) (by omega)
      · obtain ⟨q, hq, hz3⟩ := List.mem_flatMap.1 hz3
        unfold besS at hz3
        obtain ⟨x, hx, hz3⟩ := List.mem_flatMap.1 hz3
        obtain ⟨y, hy, hz3⟩ := List.mem_flatMap.1 hz3
        split at hz3
        · rename_i hc
          rw [List.mem_singleton] at hz3
          subst hz3
          obtain ⟨a, ha, rfl⟩ := nb_mem hx
          obtain ⟨b, hb, rfl⟩ := nb_mem hy
          obtain ⟨c1, c2, _⟩ := hc
          dsimp only at c1 c2 ⊢
          have hlt : q.1 < q.2.1 := (h.2.1.2.2.2.1 q hq).1
          refine good_two ⟨by omega, by omega⟩ ⟨by omega, by omega⟩ (by omega) (fun e => ?_)
          obtain rfl : a = b := by omega
          omega
        · simp at hz3
  refine ⟨⟨by omega, by rw [hN]; omega⟩, h4, fun i hi => ?_⟩
  simp only [List.getD_eq_getElem?_getD, List.getElem?_eq_getElem hi, Option.getD_some]
  exact key _ (List.getElem_mem hi)

end Go.Proofs.Ytdmfljejlhlbnaa
