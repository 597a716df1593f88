/-
  THE MODEL'S SEARCH: its state, and what turns it.
  THE MODEL'S SEARCH: spec.Solve.
  IS A CLAUSE TRUE? impl.clauseTrue; is a number in a list? spec.l01Has.
-/
import Derived.Test.YtoobcodlgajieaaDoorKWaf
import Derived.Laws.Rows
import Derived.Laws.Tables
namespace Go.Proofs.YtoobcodlgajieaaDoor
open Go.RowKit
set_option linter.unusedVariables false

section
variable {css : List (List Int)} {V bud : Nat} {R : Res} {st : Nat} {L : List (List Int)} {D : List Int}
end

section
variable {w : World} {O : Nat} {V : Int} {sl : Option Addr} {n cap : Nat} {x : Int} {T : List Int} {ls : List LCl} {D : List Int} {vt vl vd : Value} {st : Int} {W W' : World}
end

end Go.Proofs.YtoobcodlgajieaaDoor
namespace Go.Proofs.YtoobcodlgajieaaDoor
open Go.RowKit Go.Shelf
set_option linter.unusedVariables false
attribute [local go_sem] Oper.semAt_some

/-- One of the literals is true. -/
def ClT (ts zs : List Int) : Prop := ∃ z ∈ zs, (lv z ∈ ts ↔ 0 < z)
def NoT (ts zs : List Int) : Prop := ∀ z ∈ zs, ¬ (lv z ∈ ts ↔ 0 < z)
theorem NoT.nil (ts : List Int) : NoT ts [] := fun z h => absurd h List.not_mem_nil
theorem NoT.step {ts pre : List Int} {x : Int} (h : NoT ts pre) (g : ¬ (lv x ∈ ts ↔ 0 < x)) : NoT ts (pre ++ [x]) := fun z hz => by
  rcases List.mem_append.1 hz with hz | hz
  · exact h z hz
  · rw [List.mem_singleton.1 hz]; exact g
theorem ClT.prefix {ts pre zs : List Int} (h : pre <+: zs) (g : ClT ts pre) : ClT ts zs := by
  obtain ⟨z, hz, e⟩ := g
  exact ⟨z, h.subset hz, e⟩
theorem NoT.no {ts zs : List Int} (h : NoT ts zs) : ¬ ClT ts zs := fun ⟨z, hz, e⟩ => h z hz e

set_option maxRecDepth 100000 in
set_option maxHeartbeats 4000000 in
/-- impl.clauseTrue. -/
theorem clt_any (sl : Option Addr) (cap : Nat) (zs : List Int) (sl2 : Option Addr) (cap2 : Nat) (ts : List Int) (w : World) (hn : zs.length ≤ 1048576) (hm : ts.length ≤ 1048576) (hz : Ints w sl zs) (ht : Ints w sl2 ts) :
    Calls Tryd.prog 102 #[.slice sl zs.length cap, .slice sl2 ts.length cap2] w fun e w' => e = .returned (.bool (B (ClT ts zs))) ∧ Below w.heap.size w w' := by
  have HZ : Hid (∀ W, Below w.heap.size w W → zs = [] ∨ ∃ b off, sl = some ⟨b, off, none⟩ ∧ b < w.heap.size ∧ ∀ j, j < zs.length → W.cell? ⟨b, off + j, none⟩ = some (.int .i64 (zs[j]?.getD 0))) := fun W hW => by
    rcases hz with e | ⟨c, o, e, hl, hc⟩
    · exact .inl e
    · exact .inr ⟨c, o, e, hl, fun j hj => (hW.cell (p := ⟨c, o + j, none⟩) hl).trans (by rw [hc j hj]; simp)⟩
  have HT : Hid (∀ x W, Below w.heap.size w W → Calls Tryd.prog 57 #[.slice sl2 ts.length cap2, .int .i64 x] W fun e w' => e = .returned (.bool (B (x ∈ ts))) ∧ Below W.heap.size W w') := fun x W hW => has_any sl2 cap2 x ts W hm (ht.below hW)
  have HN := Lib.hid hn
  clear hz hn ht hm
  generalize ts.length = m at *
  refine (callsIn_wide (n := 6)).1 ?_
  refine callsIn_of_wp_marks Tryd.func102 rfl trivial ?_ rfl
  simp only [Tryd.ntmps102, List.size_toArray, List.length_cons, List.length_nil, Nat.reduceAdd, Nat.reduceSub, Array.replicate_succ, Array.replicate_zero, List.push_toArray, List.append_toArray, List.nil_append, List.cons_append]
  gi_wp2_with (refine ⟨trivial, ?_⟩; gi_at_call 108; refine (lits_in Fence.wide _ trivial rfl _ _ _ _).mono ?_; rintro e w' ⟨rfl, rfl⟩)
  have bT0 := Boxed.new w 26 (.slice sl2 m cap2)
  have bR := Boxed.new (w.alloc (.cells #[.slice sl2 m cap2] 26)) 4 (.bool false)
  have bC := Boxed.new ((w.alloc (.cells #[.slice sl2 m cap2] 26)).alloc (.cells #[.bool false] 4)) 26 (.slice sl zs.length cap)
  simp only [World.size_alloc] at bR bC
  have hB0 : Below w.heap.size w (((w.alloc (.cells #[.slice sl2 m cap2] 26)).alloc (.cells #[.bool false] 4)).alloc (.cells #[.slice sl zs.length cap] 26)) := bA (bA (bA0 _ _) _) _
  refine wpIn_rangeFunc_ownG rfl (by omega) (gf := 117) (lb := #[.pointer (some ⟨w.heap.size + 1 + 1, 0, none⟩)]) rfl trivial (enters_of Tryd.func117 (by kernel_rfl) rfl)
    (lits_stops Fence.wide _ trivial rfl (by omega) (w.heap.size + 1 + 1) w.heap.size sl cap zs HN.out _ (by simp) (by simp; omega) bC.cell (HZ.out _ hB0)) belowK_t (belowK_b (by simp; omega)) (Below.refl _ _) (fun _ => rfl)
    (fun pre W => Boxed W w.heap.size 26 (.slice sl2 m cap2) ∧ Boxed W (w.heap.size + 1) 4 (.bool false) ∧ NoT ts pre ∧ Below w.heap.size w W)
    (fun c pre W => Boxed W (w.heap.size + 1) 4 (.bool true) ∧ (c = .ret ∧ ClT ts pre) ∧ Below w.heap.size w W)
    (OwnFrom.and (Own.from (boxed_own _ _ _) _) (OwnFrom.and (Own.from (boxed_own _ _ _) _) (OwnFrom.and (ownFrom_pure _ _) (ownFrom_below (Nat.le_refl _) (by simp; omega)))))
    (fun c => OwnFrom.and (Own.from (boxed_own _ _ _) _) (OwnFrom.and (ownFrom_pure _ _) (ownFrom_below (Nat.le_refl _) (by simp; omega))))
    ⟨(bT0.alloc _).alloc _, bR.alloc _, NoT.nil ts, hB0⟩
    (fun x => { tmps := #[.slice sl zs.length cap, .slice sl2 m cap2, undef, .pointer (some ⟨w.heap.size, 0, none⟩), .pointer (some ⟨w.heap.size + 1, 0, none⟩), .int .i64 (lv x), .bool (decide (0 < x)), .slice sl zs.length cap, .func (.func 117) #[] #[.pointer (some ⟨w.heap.size + 1 + 1, 0, none⟩)], .int .i64 (lv x), .bool (decide (0 < x)), undef, undef, undef, undef, undef], defers := [] }) ?assign ?body ?done ?stop
  case assign =>
    intro l x W K hK
    gi_wp2
    exact hK
  case body =>
    rintro l pre x W ⟨bT1, bR, hG, hB⟩ hlt
    have hc := bT1.cell
    have E := Lib.hid (HT.out (lv x) W hB)
    have hk1 : 1 ≤ 6 - 1 - 1 := by omega
    have HG := Lib.hid hG
    clear hG
    cases hb : B (lv x ∈ ts) with
    | true =>
      rw [hb] at E
      cases hx : decide (0 < x) with
      | true =>
        have YG := Lib.hid (show ClT ts (pre ++ [x]) from ⟨x, by simp, ⟨fun _ => of_decide_eq_true hx, fun _ => B_true hb⟩⟩)
        clear hb hx
        generalize lv x = y at *
        gi_wp2_with (refine ⟨trivial, ?_⟩; gi_at_call 57; refine (CallsIn.inRound l (callsIn_wide.2 E.out)).mono ?_; rintro e w1 ⟨rfl, b1⟩; have bR1 := boxB bR b1; have hcr1 := bR1.cell; have hfr1 := bR1.frozen)
        exact ⟨(keeps_below b1).trans ((KeepsOthers.setCell _ _ _).from _), bR1.set _, ⟨rfl, YG.out⟩, (bT hB b1).setCell (p := ⟨w.heap.size + 1, 0, none⟩) (by simp) _⟩
      | false =>
        have NG := Lib.hid (HG.out.step (x := x) (fun g => of_decide_eq_false hx (g.1 (B_true hb))))
        clear hb hx
        generalize lv x = y at *
        gi_wp2_with (refine ⟨trivial, ?_⟩; gi_at_call 57; refine (CallsIn.inRound l (callsIn_wide.2 E.out)).mono ?_; rintro e w1 ⟨rfl, b1⟩)
        exact ⟨keeps_below b1, b1.mono hB.size, boxB bT1 b1, boxB bR b1, NG.out, bT hB b1⟩
    | false =>
      rw [hb] at E
      cases hx : decide (0 < x) with
      | true =>
        have NG := Lib.hid (HG.out.step (x := x) (fun g => B_false hb (g.2 (of_decide_eq_true hx))))
        clear hb hx
        generalize lv x = y at *
        gi_wp2_with (refine ⟨trivial, ?_⟩; gi_at_call 57; refine (CallsIn.inRound l (callsIn_wide.2 E.out)).mono ?_; rintro e w1 ⟨rfl, b1⟩)
        exact ⟨keeps_below b1, b1.mono hB.size, boxB bT1 b1, boxB bR b1, NG.out, bT hB b1⟩
      | false =>
        have YG := Lib.hid (show ClT ts (pre ++ [x]) from ⟨x, by simp, ⟨fun h => absurd h (B_false hb), fun h => absurd h (of_decide_eq_false hx)⟩⟩)
        clear hb hx
        generalize lv x = y at *
        gi_wp2_with (refine ⟨trivial, ?_⟩; gi_at_call 57; refine (CallsIn.inRound l (callsIn_wide.2 E.out)).mono ?_; rintro e w1 ⟨rfl, b1⟩; have bR1 := boxB bR b1; have hcr1 := bR1.cell; have hfr1 := bR1.frozen)
        exact ⟨(keeps_below b1).trans ((KeepsOthers.setCell _ _ _).from _), bR1.set _, ⟨rfl, YG.out⟩, (bT hB b1).setCell (p := ⟨w.heap.size + 1, 0, none⟩) (by simp) _⟩
  case done =>
    rintro D ys W hD rfl ⟨-, bR, hG, hB⟩ hK
    have hcr := bR.cell
    have hfr := bR.frozen
    gi_wp2
    have hK' := (KeepsOthers.setCell W ⟨w.heap.size + 1, 0, none⟩ (.bool false)).same D _ hK rfl
    refine ⟨by simp, .inl ⟨_, _, rfl, run_takeDeferred hK', ?_⟩⟩
    have hc5 := cell_kept (World.cell?_setCell_same' W ⟨w.heap.size + 1, 0, none⟩ (.bool false) (by rw [hcr]; rfl)) (grownBy_putObj' _ D (.deferred none)) (fun r e => by cases e; exact ⟨_, hK', rfl⟩)
    refine ⟨.bool false, ?_, by rw [B_no hG.no], (hB.setCell (p := ⟨w.heap.size + 1, 0, none⟩) (by simp) _).trans (belowK_b (w := w) (Nat.le_refl _) _ D _ _ (by simp at hD; omega) hK' rfl rfl)⟩
    simp [results, Tryd.f102, go_sem, hc5]
  case stop =>
    rintro D c pre W hD hpre ⟨bR, ⟨rfl, hG⟩, hB⟩ hK
    have hcr := bR.cell
    gi_wp2
    refine ⟨by simp, .inl ⟨_, _, rfl, run_takeDeferred hK, ?_⟩⟩
    have hc5 := cell_kept hcr (grownBy_putObj' _ D (.deferred none)) (fun r e => by cases e; exact ⟨_, hK, rfl⟩)
    refine ⟨.bool true, ?_, by rw [B_yes (hG.prefix hpre)], hB.trans (belowK_b (w := w) (Nat.le_refl _) W D _ _ (by simp at hD; omega) hK rfl rfl)⟩
    simp [results, Tryd.f102, go_sem, hc5]

end Go.Proofs.YtoobcodlgajieaaDoor
