/-
  IS A CLAUSE RIGHT? impl.clauseRight.
-/
import Derived.Test.YtoncpiaboceefaaDoorQa
import Derived.Test.YtoncpiaboceefaaDoorAd
namespace Go.Proofs.YtoncpiaboceefaaDoor
open Go.RowKit Go.Shelf
set_option linter.unusedVariables false
attribute [local go_sem] Oper.semAt_some

/-- Literals of variables up to vars, no two of one. -/
def GoodTo (vars : Int) (zs : List Int) : Prop := (∀ z ∈ zs, 1 ≤ lv z ∧ lv z ≤ vars) ∧ (zs.map lv).Nodup
/-- A clause is right, as the program asks it. -/
def ClR (vars : Int) (zs : List Int) : Prop := zs.length ≤ 16 ∧ GoodTo vars zs
theorem GoodTo.nil (vars : Int) : GoodTo vars [] := ⟨fun z h => absurd h List.not_mem_nil, List.nodup_nil⟩
theorem GoodTo.step {vars : Int} {pre : List Int} {x : Int} (h : GoodTo vars pre) (h1 : 1 ≤ lv x) (h2 : lv x ≤ vars) (h3 : lv x ∉ pre.map lv) : GoodTo vars (pre ++ [x]) := by
  refine ⟨fun z hz => ?_, ?_⟩
  · rcases List.mem_append.1 hz with hz | hz
    · exact h.1 z hz
    · rw [List.mem_singleton.1 hz]; exact ⟨h1, h2⟩
  · rw [List.map_append, List.nodup_append]
    refine ⟨h.2, by simp, fun a ha b hb => ?_⟩
    simp at hb
    rintro rfl
    subst hb
    exact h3 ha
theorem GoodTo.no1 {vars : Int} {pre : List Int} {x : Int} (h1 : ¬ (1 ≤ lv x ∧ lv x ≤ vars)) : ¬ GoodTo vars (pre ++ [x]) := fun g => h1 (g.1 x (by simp))
theorem GoodTo.no2 {vars : Int} {pre : List Int} {x : Int} (h1 : lv x ∈ pre.map lv) : ¬ GoodTo vars (pre ++ [x]) := fun g => by
  have := g.2
  rw [List.map_append, List.nodup_append] at this
  exact this.2.2 _ h1 (lv x) (by simp) rfl
theorem GoodTo.prefix {vars : Int} {pre zs : List Int} (h : pre <+: zs) (g : GoodTo vars zs) : GoodTo vars pre := by
  obtain ⟨r, rfl⟩ := h
  refine ⟨fun z hz => g.1 z (List.mem_append_left _ hz), ?_⟩
  have := g.2
  rw [List.map_append, List.nodup_append] at this
  exact this.1

theorem boxB {W W' : World} {b : Nat} {t : TypeId} {v : Value} (h : Boxed W b t v) (hb : Below W.heap.size W W') : Boxed W' b t v := (hb.block b h.lt).trans h
theorem info2c : (Tryd.prog.info? 2).map (fun i => (i.zero, i.size, i.bytes)) = some (some (.int .i64 0), 1, 8) := by kernel_rfl

set_option maxRecDepth 100000 in
set_option maxHeartbeats 2000000 in
theorem clr_long (vars : Int) (sl : Option Addr) (n cap : Nat) (w : World) (h : 16 < n) :
    Calls Tryd.prog 120 #[.slice sl n cap, .int .i64 vars] w fun e w' => e = .returned (.bool false) ∧ Below w.heap.size w w' := by
  have h' : (16 : Int) < (n : Int) := by omega
  go_enter Tryd.func120, Tryd.ntmps120
  go_wp2
  exact bodyPost_ret (v := .bool false) (by simp [results, Tryd.results120, go_sem]) rfl ⟨rfl, bA (bA0 _ _) _⟩

set_option maxRecDepth 100000 in
set_option maxHeartbeats 4000000 in
theorem clr_short (vars : Int) (sl : Option Addr) (cap : Nat) (zs : List Int) (w : World) (hn : zs.length ≤ 16) (hz : Ints w sl zs) :
    Calls Tryd.prog 120 #[.slice sl zs.length cap, .int .i64 vars] w fun e w' => e = .returned (.bool (B (GoodTo vars zs))) ∧ Below w.heap.size w w' := by
  obtain ⟨i0, hi, hz0, hz1, hz2⟩ := info_parts info2c
  have h16 : ¬ (16 : Int) < (zs.length : Int) := by omega
  have HZ : Hid (∀ W, Below w.heap.size w W → zs = [] ∨ ∃ b off, sl = some ⟨b, off, none⟩ ∧ b < w.heap.size ∧ ∀ j, j < zs.length → W.cell? ⟨b, off + j, none⟩ = some (.int .i64 (zs[j]?.getD 0))) := fun W hW => by
    rcases hz with e | ⟨c, o, e, hl, hc⟩
    · exact .inl e
    · exact .inr ⟨c, o, e, hl, fun j hj => (hW.cell (p := ⟨c, o + j, none⟩) hl).trans (by rw [hc j hj]; simp)⟩
  have HN := Lib.hid hn
  clear hz hn
  refine (callsIn_wide (n := 6)).1 ?_
  refine callsIn_of_wp_marks Tryd.func120 rfl trivial ?_ rfl
  simp only [Tryd.ntmps120, List.size_toArray, List.length_cons, List.length_nil, Nat.reduceAdd, Nat.reduceSub, Array.replicate_succ, Array.replicate_zero, List.push_toArray, List.append_toArray, List.nil_append, List.cons_append]
  gi_wp2_with (refine ⟨trivial, ?_⟩; gi_at_call 91; refine (lits_in Fence.wide _ trivial rfl _ _ _ _).mono ?_; rintro e w' ⟨rfl, rfl⟩)
  have bV := Boxed.new w 2 (.int .i64 vars)
  have bR := Boxed.new (w.alloc (.cells #[.int .i64 vars] 2)) 4 (.bool false)
  have bS := Boxed.new ((w.alloc (.cells #[.int .i64 vars] 2)).alloc (.cells #[.bool false] 4)) 68 (.slice none 0 0)
  have bC := Boxed.new (((w.alloc (.cells #[.int .i64 vars] 2)).alloc (.cells #[.bool false] 4)).alloc (.cells #[.slice none 0 0] 68)) 68 (.slice sl zs.length cap)
  simp only [World.size_alloc] at bR bS bC
  have hB0 : Below w.heap.size w ((((w.alloc (.cells #[.int .i64 vars] 2)).alloc (.cells #[.bool false] 4)).alloc (.cells #[.slice none 0 0] 68)).alloc (.cells #[.slice sl zs.length cap] 68)) := bA (bA (bA (bA0 _ _) _) _) _
  refine wpIn_rangeFunc_ownG rfl (by omega) (gf := 129) (lb := #[.pointer (some ⟨w.heap.size + 1 + 1 + 1, 0, none⟩)]) rfl trivial (enters_of Tryd.func129 (by kernel_rfl) rfl)
    (lits_stops Fence.wide _ trivial rfl (by omega) (w.heap.size + 1 + 1 + 1) w.heap.size sl cap zs (by have := HN.out; omega) _ (by simp) (by simp; omega) bC.cell (HZ.out _ hB0)) belowK_t (belowK_b (by simp; omega)) (Below.refl _ _) (fun _ => rfl)
    (fun pre W => (∃ v, Boxed W (w.heap.size + 1 + 1) 68 v ∧ W.ownsRow (w.heap.size + 1) 2 1 v (pre.map lv).length (valsZ (pre.map lv)) ∧ True) ∧ Boxed W w.heap.size 2 (.int .i64 vars) ∧ Boxed W (w.heap.size + 1) 4 (.bool false) ∧ GoodTo vars pre ∧ Below w.heap.size w W)
    (fun c pre W => Boxed W (w.heap.size + 1) 4 (.bool false) ∧ (c = .ret ∧ ¬ GoodTo vars pre) ∧ Below w.heap.size w W)
    (OwnFrom.and (Own.from (holdsRow_own (w.heap.size + 1) (w.heap.size + 1 + 1) 68 2 1 (fun pre : List Int => (pre.map lv).length) (fun pre : List Int => valsZ (pre.map lv)) (fun _ _ => True)) _) (OwnFrom.and (Own.from (boxed_own _ _ _) _) (OwnFrom.and (Own.from (boxed_own _ _ _) _) (OwnFrom.and (ownFrom_pure _ _) (ownFrom_below (Nat.le_refl _) (by simp; omega))))))
    (fun c => OwnFrom.and (Own.from (boxed_own _ _ _) _) (OwnFrom.and (ownFrom_pure _ _) (ownFrom_below (Nat.le_refl _) (by simp; omega))))
    ⟨⟨_, bS.alloc _, World.ownsRow_nil _ _ _ _, trivial⟩, ((bV.alloc _).alloc _).alloc _, (bR.alloc _).alloc _, GoodTo.nil vars, hB0⟩
    (fun x => { tmps := #[.slice sl zs.length cap, .int .i64 vars, undef, .pointer (some ⟨w.heap.size, 0, none⟩), .pointer (some ⟨w.heap.size + 1, 0, none⟩), .pointer (some ⟨w.heap.size + 1 + 1, 0, none⟩), .int .i64 (lv x), .slice sl zs.length cap, .int .i64 zs.length, .bool false, .slice sl zs.length cap, .func (.func 129) #[] #[.pointer (some ⟨w.heap.size + 1 + 1 + 1, 0, none⟩)], .int .i64 (lv x), .bool (decide (0 < x)), undef, undef, undef, undef, undef, undef, undef, undef, undef, undef, undef, undef, undef, undef, undef, undef], defers := [] }) ?assign ?body ?done ?stop
  case assign =>
    intro l x W K hK
    gi_wp2
    exact hK
  case body =>
    rintro l pre x W ⟨⟨v, hv, hrow, -⟩, bV, bR, hG, hB⟩ hlt
    have hc := hv.cell
    have hcv := bV.cell
    have hcr := bR.cell
    have hfr := bR.frozen
    by_cases c1 : lv x < 1
    · have NG := Lib.hid (GoodTo.no1 (vars := vars) (pre := pre) (x := x) (fun g => by omega))
      generalize lv x = y at *
      gi_wp2
      refine ⟨trivial, ?_⟩
      gi_wp2
      exact ⟨(KeepsOthers.setCell _ _ _).from _, bR.set _, ⟨rfl, NG.out⟩, hB.setCell (p := ⟨w.heap.size + 1, 0, none⟩) (by simp) _⟩
    · by_cases c2 : vars < lv x
      · have NG := Lib.hid (GoodTo.no1 (vars := vars) (pre := pre) (x := x) (fun g => by omega))
        generalize lv x = y at *
        gi_wp2
        refine ⟨trivial, ?_⟩
        gi_wp2
        exact ⟨(KeepsOthers.setCell _ _ _).from _, bR.set _, ⟨rfl, NG.out⟩, hB.setCell (p := ⟨w.heap.size + 1, 0, none⟩) (by simp) _⟩
      · have HR := Lib.hid hrow
        have HG := Lib.hid hG
        have hpl : (pre.map lv).length ≤ 16 := by have := HN.out; simp; omega
        obtain ⟨s, kc, rfl, ii⟩ := own_ints hrow
        have E := Lib.hid (has_any s kc (lv x) (pre.map lv) W (by omega) ii)
        have hk1 : 1 ≤ 6 - 1 - 1 := by omega
        clear ii hG hrow
        cases hb : B (lv x ∈ pre.map lv) with
        | true =>
          rw [hb] at E
          have NG := Lib.hid (GoodTo.no2 (vars := vars) (pre := pre) (x := x) (B_true hb))
          clear hb HR HG
          generalize lv x = y at *
          generalize (pre.map lv).length = m at *
          gi_wp2_with (refine ⟨trivial, ?_⟩; gi_at_call 149; refine (CallsIn.inRound l (callsIn_wide.2 E.out)).mono ?_; rintro e w1 ⟨rfl, b1⟩; have bR1 := boxB bR b1; have hcr1 := bR1.cell; have hfr1 := bR1.frozen)
          exact ⟨(keeps_below b1).trans ((KeepsOthers.setCell _ _ _).from _), bR1.set _, ⟨rfl, NG.out⟩, (bT hB b1).setCell (p := ⟨w.heap.size + 1, 0, none⟩) (by simp) _⟩
        | false =>
          rw [hb] at E
          have HG2 := Lib.hid (HG.out.step (by omega) (by omega) (B_false hb))
          have EM := Lib.hid (show (pre ++ [x]).map lv = pre.map lv ++ [lv x] by simp)
          clear hb HG
          generalize lv x = y at *
          generalize hps : pre.map lv = ps at *
          generalize hm : ps.length = m at *
          gi_wp2_with (first | (refine ⟨trivial, ?_⟩; gi_at_call 149; refine (CallsIn.inRound l (callsIn_wide.2 E.out)).mono ?_; rintro e w1 ⟨rfl, b1⟩; have bS1 := boxB hv b1; have hcs1 := bS1.cell; have hr1 := own_below HR.out b1) | (gi_at_builtin; refine wpListIn_append_own _ rfl _ _ 68 rfl (w.heap.size + 1) 2 i0 (.int .i64 0) 1 8 Tryd.underlying68 hi hz0 hz1 hz2 rfl (by decide) _ _ _ rfl (hr1.alloc _) ⟨w1.heap.size, 0, none⟩ 1 1 [.int .i64 y] rfl rfl (cell_one_new _ _ _) (by simp [Value.oneCell']) (by unfold maxLen; omega) (by omega) (by have := bS1.lt; simp; omega) ?_; intro v' w2 hown' hgrow _; obtain ⟨g', cap', rfl⟩ := ownsRow_succ hown'; obtain ⟨hv1, hv2, hr2, hk2, hb2⟩ := bS1.appended (by decide) hr1 (by have := bS1.lt; omega) (by omega) hown' hgrow; have hc1 := hv1.cell; have hf1 := hv1.frozen))
          have bR1 := boxB bR b1
          have bV1 := boxB bV b1
          have bR2 := (((bR1.alloc _).kept hgrow (bR1.not_row (by decide) hr1)).other (B' := w.heap.size + 1 + 1) (by omega) (.slice (some ⟨g', 0, none⟩) (m + 1) cap'))
          have bV2 : Boxed _ w.heap.size 2 (.int .i64 vars) := (hb2.block w.heap.size (by omega)).trans bV1
          refine ⟨(keeps_below b1).trans (hk2.from _), (b1.mono hB.size).trans (hb2.mono (by omega)), ⟨_, hv2, ?_, trivial⟩, bV2, bR2, HG2.out, (bT hB b1).trans (hb2.mono (by omega))⟩
          rw [EM.out]
          simpa [valsZ, hm] using hr2
  case done =>
    rintro D ys W hD rfl ⟨-, -, bR, hG, hB⟩ hK
    have hcr := bR.cell
    have hfr := bR.frozen
    gi_wp2
    have hK' := (KeepsOthers.setCell W ⟨w.heap.size + 1, 0, none⟩ (.bool true)).same D _ hK rfl
    refine ⟨by simp, .inl ⟨_, _, rfl, run_takeDeferred hK', ?_⟩⟩
    have hc5 := cell_kept (World.cell?_setCell_same' W ⟨w.heap.size + 1, 0, none⟩ (.bool true) (by rw [hcr]; rfl)) (grownBy_putObj' _ D (.deferred none)) (fun r e => by cases e; exact ⟨_, hK', rfl⟩)
    refine ⟨.bool true, ?_, by rw [B_yes hG], (hB.setCell (p := ⟨w.heap.size + 1, 0, none⟩) (by simp) _).trans (belowK_b (w := w) (Nat.le_refl _) _ D _ _ (by simp at hD; omega) hK' rfl rfl)⟩
    simp [results, Tryd.f120, go_sem, hc5]
  case stop =>
    rintro D c pre W hD hpre ⟨bR, ⟨rfl, hG⟩, hB⟩ hK
    have hcr := bR.cell
    gi_wp2
    refine ⟨by simp, .inl ⟨_, _, rfl, run_takeDeferred hK, ?_⟩⟩
    have hc5 := cell_kept hcr (grownBy_putObj' _ D (.deferred none)) (fun r e => by cases e; exact ⟨_, hK, rfl⟩)
    refine ⟨.bool false, ?_, by rw [B_no (fun g => hG (g.prefix hpre))], hB.trans (belowK_b (w := w) (Nat.le_refl _) W D _ _ (by simp at hD; omega) hK rfl rfl)⟩
    simp [results, Tryd.f120, go_sem, hc5]

/-- impl.clauseRight. -/
theorem clr_any (vars : Int) (sl : Option Addr) (cap : Nat) (zs : List Int) (w : World) (hz : Ints w sl zs) :
    Calls Tryd.prog 120 #[.slice sl zs.length cap, .int .i64 vars] w fun e w' => e = .returned (.bool (B (ClR vars zs))) ∧ Below w.heap.size w w' := by
  by_cases h : zs.length ≤ 16
  · rw [B_iff (show ClR vars zs ↔ GoodTo vars zs from ⟨fun g => g.2, fun g => ⟨h, g⟩⟩)]
    exact clr_short vars sl cap zs w h hz
  · rw [B_no (p := ClR vars zs) (fun g => h g.1)]
    exact clr_long vars sl _ cap w (by omega)

end Go.Proofs.YtoncpiaboceefaaDoor
