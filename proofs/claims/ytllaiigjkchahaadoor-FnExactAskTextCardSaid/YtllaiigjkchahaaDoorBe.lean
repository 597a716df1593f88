/-
  MAY A LIST BE TOLD AS A LEMMA? impl.lemmaTold.
-/
import Derived.Test.YtllaiigjkchahaaDoorQb
import Derived.Test.YtllaiigjkchahaaDoorBc
namespace Go.Proofs.YtllaiigjkchahaaDoor
open Go.RowKit Go.Shelf
set_option linter.unusedVariables false
attribute [local go_sem] Oper.semAt_some

/-- Literals of variables from 1 to 96. -/
def GoodL (zs : List Int) : Prop := ∀ z ∈ zs, 1 ≤ lv z ∧ lv z ≤ 96
theorem GoodL.nil : GoodL [] := fun z h => absurd h List.not_mem_nil
theorem GoodL.step {pre : List Int} {x : Int} (h : GoodL pre) (h1 : 1 ≤ lv x) (h2 : lv x ≤ 96) : GoodL (pre ++ [x]) := fun z hz => by
  rcases List.mem_append.1 hz with hz | hz
  · exact h z hz
  · rw [List.mem_singleton.1 hz]; exact ⟨h1, h2⟩
theorem GoodL.no {pre : List Int} {x : Int} (h1 : ¬ (1 ≤ lv x ∧ lv x ≤ 96)) : ¬ GoodL (pre ++ [x]) := fun g => h1 (g x (by simp))
theorem GoodL.prefix {pre zs : List Int} (h : pre <+: zs) (g : GoodL zs) : GoodL pre := by
  obtain ⟨r, rfl⟩ := h
  exact fun z hz => g z (List.mem_append_left _ hz)

set_option maxRecDepth 100000 in
set_option maxHeartbeats 2000000 in
theorem told_long (sl : Option Addr) (n cap : Nat) (w : World) (h : 96 < n) :
    Calls Tryd.prog 36 #[.slice sl n cap] w fun e w' => e = .returned (.bool false) ∧ Below w.heap.size w w' := by
  have h' : (96 : Int) < (n : Int) := by omega
  go_enter Tryd.func36, Tryd.ntmps36
  go_wp2
  exact bodyPost_ret (v := .bool false) (by simp [results, Tryd.results36, go_sem]) rfl ⟨rfl, bA0 _ _⟩

set_option maxRecDepth 100000 in
set_option maxHeartbeats 4000000 in
theorem told_short (sl : Option Addr) (cap : Nat) (zs : List Int) (w : World) (hn : zs.length ≤ 96) (hz : Ints w sl zs) :
    Calls Tryd.prog 36 #[.slice sl zs.length cap] w fun e w' => e = .returned (.bool (B (GoodL zs))) ∧ Below w.heap.size w w' := by
  have h16 : ¬ (96 : Int) < (zs.length : Int) := by omega
  have HZ : Hid (∀ W, Below w.heap.size w W → zs = [] ∨ ∃ b off, sl = some ⟨b, off, none⟩ ∧ b < w.heap.size ∧ ∀ j, j < zs.length → W.cell? ⟨b, off + j, none⟩ = some (.int .i64 (zs[j]?.getD 0))) := fun W hW => by
    rcases hz with e | ⟨c, o, e, hl, hc⟩
    · exact .inl e
    · exact .inr ⟨c, o, e, hl, fun j hj => (hW.cell (p := ⟨c, o + j, none⟩) hl).trans (by rw [hc j hj]; simp)⟩
  have HN := Lib.hid hn
  clear hz hn
  refine (callsIn_wide (n := 6)).1 ?_
  refine callsIn_of_wp_marks Tryd.func36 rfl trivial ?_ rfl
  simp only [Tryd.ntmps36, List.size_toArray, List.length_cons, List.length_nil, Nat.reduceAdd, Nat.reduceSub, Array.replicate_succ, Array.replicate_zero, List.push_toArray, List.append_toArray, List.nil_append, List.cons_append]
  gi_wp2_with (refine ⟨trivial, ?_⟩; gi_at_call 45; refine (lits_in Fence.wide _ trivial rfl _ _ _ _).mono ?_; rintro e w' ⟨rfl, rfl⟩)
  have bR := Boxed.new w 4 (.bool false)
  have bC := Boxed.new (w.alloc (.cells #[.bool false] 4)) 62 (.slice sl zs.length cap)
  simp only [World.size_alloc] at bC
  have hB0 : Below w.heap.size w ((w.alloc (.cells #[.bool false] 4)).alloc (.cells #[.slice sl zs.length cap] 62)) := bA (bA0 _ _) _
  refine wpIn_rangeFunc_ownG rfl (by omega) (gf := 54) (lb := #[.pointer (some ⟨w.heap.size + 1, 0, none⟩)]) rfl trivial (enters_of Tryd.func54 (by kernel_rfl) rfl)
    (lits_stops Fence.wide _ trivial rfl (by omega) (w.heap.size + 1) w.heap.size sl cap zs (by have := HN.out; omega) _ (by simp) (by simp; omega) bC.cell (HZ.out _ hB0)) belowK_t (belowK_b (by simp; omega)) (Below.refl _ _) (fun _ => rfl)
    (fun pre W => Boxed W w.heap.size 4 (.bool false) ∧ GoodL pre ∧ Below w.heap.size w W)
    (fun c pre W => Boxed W w.heap.size 4 (.bool false) ∧ (c = .ret ∧ ¬ GoodL pre) ∧ Below w.heap.size w W)
    (OwnFrom.and (Own.from (boxed_own _ _ _) _) (OwnFrom.and (ownFrom_pure _ _) (ownFrom_below (Nat.le_refl _) (by simp; omega))))
    (fun c => OwnFrom.and (Own.from (boxed_own _ _ _) _) (OwnFrom.and (ownFrom_pure _ _) (ownFrom_below (Nat.le_refl _) (by simp; omega))))
    ⟨bR.alloc _, GoodL.nil, hB0⟩
    (fun x => { tmps := #[.slice sl zs.length cap, undef, .pointer (some ⟨w.heap.size, 0, none⟩), .int .i64 (lv x), .slice sl zs.length cap, .int .i64 zs.length, .bool false, .slice sl zs.length cap, .func (.func 54) #[] #[.pointer (some ⟨w.heap.size + 1, 0, none⟩)], .int .i64 (lv x), .bool (decide (0 < x)), undef, undef, undef, undef, undef, undef], defers := [] }) ?assign ?body ?done ?stop
  case assign =>
    intro l x W K hK
    gi_wp2
    exact hK
  case body =>
    rintro l pre x W ⟨bR, hG, hB⟩ hlt
    have hcr := bR.cell
    have hfr := bR.frozen
    by_cases c1 : lv x < 1
    · have NG := Lib.hid (GoodL.no (pre := pre) (x := x) (fun g => by omega))
      generalize lv x = y at *
      gi_wp2
      exact ⟨(KeepsOthers.setCell _ _ _).from _, bR.set _, ⟨rfl, NG.out⟩, hB.setCell (p := ⟨w.heap.size, 0, none⟩) (by simp) _⟩
    · by_cases c2 : 96 < lv x
      · have NG := Lib.hid (GoodL.no (pre := pre) (x := x) (fun g => by omega))
        generalize lv x = y at *
        gi_wp2
        exact ⟨(KeepsOthers.setCell _ _ _).from _, bR.set _, ⟨rfl, NG.out⟩, hB.setCell (p := ⟨w.heap.size, 0, none⟩) (by simp) _⟩
      · have HG2 := Lib.hid (GoodL.step (x := x) hG (by omega) (by omega))
        generalize lv x = y at *
        gi_wp2
        exact ⟨KeepsFrom.refl _ _, Below.refl _ _, bR, HG2.out, hB⟩
  case done =>
    rintro D ys W hD rfl ⟨bR, hG, hB⟩ hK
    have hcr := bR.cell
    have hfr := bR.frozen
    gi_wp2
    have hK' := (KeepsOthers.setCell W ⟨w.heap.size, 0, none⟩ (.bool true)).same D _ hK rfl
    refine ⟨by simp, .inl ⟨_, _, rfl, run_takeDeferred hK', ?_⟩⟩
    have hc5 := cell_kept (World.cell?_setCell_same' W ⟨w.heap.size, 0, none⟩ (.bool true) (by rw [hcr]; rfl)) (grownBy_putObj' _ D (.deferred none)) (fun r e => by cases e; exact ⟨_, hK', rfl⟩)
    refine ⟨.bool true, ?_, by rw [B_yes hG], (hB.setCell (p := ⟨w.heap.size, 0, none⟩) (by simp) _).trans (belowK_b (w := w) (Nat.le_refl _) _ D _ _ (by simp at hD; omega) hK' rfl rfl)⟩
    simp [results, Tryd.f36, go_sem, hc5]
  case stop =>
    rintro D c pre W hD hpre ⟨bR, ⟨rfl, hG⟩, hB⟩ hK
    have hcr := bR.cell
    gi_wp2
    refine ⟨by simp, .inl ⟨_, _, rfl, run_takeDeferred hK, ?_⟩⟩
    have hc5 := cell_kept hcr (grownBy_putObj' _ D (.deferred none)) (fun r e => by cases e; exact ⟨_, hK, rfl⟩)
    refine ⟨.bool false, ?_, by rw [B_no (fun g => hG (g.prefix hpre))], hB.trans (belowK_b (w := w) (Nat.le_refl _) W D _ _ (by simp at hD; omega) hK rfl rfl)⟩
    simp [results, Tryd.f36, go_sem, hc5]

theorem lv_one {z : Int} (h0 : -9223372036854775808 ≤ z) (h1 : z ≤ 9223372036854775807) : (1 ≤ lv z ∧ lv z ≤ 96) ↔ (-96 ≤ z ∧ z ≤ 96) ∧ z ≠ 0 := by
  unfold lv wrap64
  omega
end Go.Proofs.YtllaiigjkchahaaDoor
