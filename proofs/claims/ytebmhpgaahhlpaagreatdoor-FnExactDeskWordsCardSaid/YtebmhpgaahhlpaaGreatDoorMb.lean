/-
  slices.AppendSeq behind texts of the call's own.
-/
import Derived.Test.YtebmhpgaahhlpaaGreatDoorMa
import Derived.RangeFuncFrom
import Derived.RangeFuncOne
import Derived.RangeFuncBox
import Derived.RangeFuncNested
import Derived.RangeFuncBound
import Derived.RangeFuncCalls
import Derived.RangeFuncLeaves
import Derived.Shelf.Abstract
import Derived.Shelf.RegionOpen
import Derived.OwnWalkIn
import Derived.TacticsInMore
import Derived.LoopNIn
import Derived.LoopIn
import Derived.Maps.AppendAt
import Derived.Sort.EncStr
namespace Go.Proofs.YtebmhpgaahhlpaaGreatDoor
open Go.RowKit Go.Shelf Go.Proofs
set_option linter.unusedVariables false
set_option linter.unusedSimpArgs false
attribute [local go_sem] Oper.semAt_some

theorem info9c : (Tryz.prog.info? 9).map (fun i => (i.zero, i.size, i.bytes)) = some (some (.string ⟨#[]⟩), 1, 16) := by kernel_rfl

set_option maxRecDepth 100000 in
set_option maxHeartbeats 2000000 in
theorem app_in (n : Nat) (hn : 2 ≤ n) (B : Nat) (v0 : Value) (zs : List (List UInt8)) (w : World) (hB : B ≤ w.heap.size) (hrow : w.ownsRow B 9 1 v0 zs.length (zs.map encStr))
    (g : Nat) (lb : Array Value) (eg : ∀ args w, (callFunc g args).run Tryz.prog w = .ok (.enter g args) w) (S Sp : List (List UInt8) → Prop) (N : Nat) (hN : zs.length + N ≤ 1000000) (hseq : SeqStops Fence.wide (n - 1) Tryz.prog g lb encStr S Sp N w) :
    CallsIn Fence.wide n Tryz.prog 12 #[v0, .func (.func g) #[] lb] w fun e w' => ∃ v ss, e = .returned v ∧ S ss ∧ w'.ownsRow B 9 1 v (zs.length + ss.length) (zs.map encStr ++ ss.map encStr) ∧ Below B w w' := by
  have h1 : 1 ≤ n := by omega
  obtain ⟨i0, hi, hz0, hz1, hz2⟩ := info_parts info9c
  have HR := Lib.hid hrow
  obtain ⟨sl, m0, c0, rfl⟩ : ∃ sl m0 c0, v0 = .slice sl m0 c0 := by
    rcases hrow.2 with ⟨rfl, _⟩ | ⟨g', cap', cur', rfl, _⟩ <;> exact ⟨_, _, _, rfl⟩
  clear hrow
  refine callsIn_of_wp_marks Tryz.func12 rfl trivial ?_ rfl
  simp only [Tryz.ntmps12, List.size_toArray, List.length_cons, List.length_nil, Nat.reduceAdd, Nat.reduceSub, Array.replicate_succ, Array.replicate_zero, List.push_toArray, List.append_toArray, List.nil_append, List.cons_append]
  gi_wp2
  have bX := Boxed.new w 22 (.slice sl m0 c0)
  have hB1 : Below B w (w.alloc (.cells #[.slice sl m0 c0] 22)) := (Below.refl _ w).alloc hB _
  have hR1 : (w.alloc (.cells #[.slice sl m0 c0] 22)).ownsRow B 9 1 (.slice sl m0 c0) zs.length (zs.map encStr) := HR.out.alloc _
  refine wpIn_rangeFunc_ownF rfl h1 (gf := g) (lb := lb) rfl trivial eg (seqStopsA_iff.1 hseq) walksK_t walksK_b ((Below.refl _ w).alloc (Nat.le_refl _) _) (fun _ => rfl)
    (fun pre W => (∃ v, Boxed W w.heap.size 22 v ∧ W.ownsRow B 9 1 v (zs.length + pre.length) (zs.map encStr ++ pre.map encStr) ∧ True) ∧ Below B w W)
    (fun _ _ _ => False)
    (OwnFrom.and (Own.from (holdsRow_own B w.heap.size 22 9 1 (fun pre : List (List UInt8) => zs.length + pre.length) (fun pre => zs.map encStr ++ pre.map encStr) (fun _ _ => True)) _) (ownFrom_below hB (by simp; omega)))
    (fun _ _ _ _ _ hs _ _ => hs)
    ⟨⟨_, bX, by simpa using hR1, trivial⟩, hB1⟩
    (fun x => { tmps := #[.slice sl m0 c0, .func (.func g) #[] lb, .pointer (some ⟨w.heap.size, 0, none⟩), undef, .slice none 0 0, encStr x, .func (.func g) #[] lb, encStr x, undef, undef, undef, undef, undef], defers := [] }) ?assign ?body ?done ?stop
  case assign =>
    intro l x W K hK
    gi_wp2
    exact hK
  case body =>
    rintro l pre x W ⟨⟨v, hv, hrow, -⟩, hBW⟩ hlt
    have hc := hv.cell
    have hf := hv.frozen
    obtain ⟨sl1, m1, c1, rfl⟩ : ∃ sl m0 c0, v = .slice sl m0 c0 := by
      rcases hrow.2 with ⟨rfl, _⟩ | ⟨g', cap', cur', rfl, _⟩ <;> exact ⟨_, _, _, rfl⟩
    gi_wp2_with (gi_at_builtin; refine wpListIn_append_own _ rfl _ _ 22 rfl B 9 i0 (.string ⟨#[]⟩) 1 16 Tryz.underlying22 hi hz0 hz1 hz2 rfl (by decide) _ _ _ rfl (hrow.alloc _) ⟨W.heap.size, 0, none⟩ 1 1 [encStr x] rfl rfl (cell_one_new _ _ _) (by simp [Value.oneCell', encStr]) (by simp [maxLen]; omega) (by omega) (by have := hBW.size; simp; omega) ?_; intro v' w1 hown' hgrow _; obtain ⟨g', cap', rfl⟩ := ownsRow_succ hown'; obtain ⟨hv1, hv2, hr2, hk2, hb2⟩ := hv.appended (by decide) hrow (Nat.le_trans hB hBW.size) hB hown' hgrow; have hc1 := hv1.cell; have hf1 := hv1.frozen)
    refine ⟨hk2, hk2.walks, ⟨_, hv2, ?_, trivial⟩, hBW.trans hb2⟩
    have := hr2
    simpa [Nat.add_assoc] using this
  case done =>
    rintro D ys W hD hS ⟨⟨v, hv, hrow, -⟩, hBW⟩ hK
    have hc := hv.cell
    obtain ⟨sl1, m1, c1, rfl⟩ : ∃ sl m0 c0, v = .slice sl m0 c0 := by
      rcases hrow.2 with ⟨rfl, _⟩ | ⟨g', cap', cur', rfl, _⟩ <;> exact ⟨_, _, _, rfl⟩
    gi_wp2
    refine ⟨by simp, .inl ⟨_, _, rfl, run_takeDeferred hK, ?_⟩⟩
    exact ⟨_, results_tmp rfl _ _ _, _, ys, rfl, hS, ownsRow_putObj hrow _ hK rfl, hBW.grown (grownBy_putObj' _ D (.deferred none)) (Nat.le_trans hB hBW.size) (fun k e => by cases e; simp at hD; omega)⟩
  case stop =>
    rintro D c pre W _ _ h _
    exact h.elim

end Go.Proofs.YtebmhpgaahhlpaaGreatDoor
