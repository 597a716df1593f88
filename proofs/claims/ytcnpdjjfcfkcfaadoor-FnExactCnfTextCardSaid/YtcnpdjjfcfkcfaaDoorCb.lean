/-
  CLAUSES AS TEXT, AS THE PROGRAM TELLS THEM: impl.CnfText.
-/
import Derived.Test.YtcnpdjjfcfkcfaaDoorCa
import Derived.Test.YtcnpdjjfcfkcfaaDoorBh
import Derived.Test.YtcnpdjjfcfkcfaaDoorQd
namespace Go.Proofs.YtcnpdjjfcfkcfaaDoor
open Go.RowKit
set_option linter.unusedVariables false

/-- The first line; the text. -/
def headB (vars : Int) (n : Nat) : List UInt8 := wordB [112, 32, 99, 110, 102] [vars, (n : Int)]
noncomputable def cnfT (vars : Int) (css : List (List Int)) : List UInt8 := if B (CnfR vars css) = true then (if (headB vars css.length ++ allB css).length ≤ 20000 then headB vars css.length ++ allB css else []) else []
theorem cnfT_no {vars : Int} {css : List (List Int)} (h : ¬ CnfR vars css) : cnfT vars css = [] := by
  unfold cnfT; rw [B_no h]; rfl
theorem cnfT_yes {vars : Int} {css : List (List Int)} (h : CnfR vars css) : cnfT vars css = if (headB vars css.length ++ allB css).length ≤ 20000 then headB vars css.length ++ allB css else [] := by
  unfold cnfT; rw [B_yes h]; rfl
theorem headB_le (vars : Int) (n : Nat) (h : 0 ≤ vars ∧ vars ≤ 96) (hn : n ≤ 4000) : (headB vars n).length ≤ 100 := by
  have h1 := itoa_mid vars ⟨by omega, by omega⟩
  have h2 := itoa_mid (n : Int) ⟨by omega, by omega⟩
  simp [headB, wordB, numB]
  omega
theorem cnfR_lines {vars : Int} {css : List (List Int)} (h : CnfR vars css) (hw : WfL css) : LinesOk css := by
  refine ⟨h.2.1, fun zs hzs => ?_⟩
  obtain ⟨i, hi, e⟩ := List.getElem_of_mem hzs
  have hr := h.2.2 i hi
  rw [List.getD_eq_getElem?_getD, List.getElem?_eq_getElem hi] at hr
  simp only [Option.getD_some] at hr
  rw [e] at hr
  refine ⟨by have := hr.1; omega, fun z hz => ?_⟩
  have hb := wfI_bd (hw zs hzs z hz)
  have hg := hr.2.1 z hz
  have h96 := h.1.2
  exact ((lv_one hb.1 hb.2).1 ⟨hg.1, by omega⟩).1
theorem ints2 (w : World) (x : Int) (y : Nat) : Ints (w.alloc (.cells #[.int .i64 x, .int .i64 (y : Int)] 2)).drew (some ⟨w.heap.size, 0, none⟩) [x, (y : Int)] := by
  refine .inr ⟨w.heap.size, 0, rfl, by simp, fun i hi => ?_⟩
  have hb : (w.alloc (.cells #[.int .i64 x, .int .i64 (y : Int)] 2)).heap[w.heap.size]? = some (.cells #[.int .i64 x, .int .i64 (y : Int)] 2) := by
    show (w.heap.push _)[w.heap.size]? = _
    simp
  have hc : ∀ j, (w.alloc (.cells #[.int .i64 x, .int .i64 (y : Int)] 2)).drew.cell? ⟨w.heap.size, j, none⟩ = #[Value.int .i64 x, .int .i64 (y : Int)][j]? := fun j => by
    show (w.alloc (.cells #[.int .i64 x, .int .i64 (y : Int)] 2)).cell? ⟨w.heap.size, j, none⟩ = _
    unfold World.cell?
    simp only [hb]
    rfl
  rw [Nat.zero_add, hc]
  match i, hi with
  | 0, _ => rfl
  | 1, _ => rfl
set_option maxRecDepth 100000 in
set_option maxHeartbeats 2000000 in
/-- impl.CnfText. -/
theorem ict_any (vars : Int) (sl : Option Addr) (cap : Nat) (cs : List LCl) (w : World) (hn : cs.length ≤ maxLen) (hw : WfL (bareC cs)) (hz : Cls w sl cs) (ht : PowTab w) :
    Calls Tryd.prog 30 #[CV vars sl cs.length cap] w fun e w' => e = .returned (.string ⟨(cnfT vars (bareC cs)).toArray⟩) ∧ Below w.heap.size w w' := by
  have B0 := Lib.hid (bA0 w (.cells #[.int .i64 vars, .slice sl cs.length cap] 27))
  have CA := Lib.hid (CnfAt.new w vars sl cs.length cap)
  have E1 := Lib.hid (icr_any vars sl cap cs (w.alloc (.cells #[.int .i64 vars, .slice sl cs.length cap] 27)) hn (hz.below (bA0 _ _)))
  by_cases hr : CnfR vars (bareC cs)
  · rw [B_yes hr] at E1
    have hln : (bareC cs).length = cs.length := by simp [bareC]
    have LT : Hid (cnfT vars (bareC cs) = if (headB vars cs.length ++ allB (bareC cs)).length ≤ 20000 then headB vars cs.length ++ allB (bareC cs) else []) := by
      have := cnfT_yes hr
      rw [hln] at this
      exact this
    have hv := hr.1
    have h4 : cs.length ≤ 4000 := by have := hr.2.1; omega
    have E64 : Hid (∀ W a, Below w.heap.size w W → Ints W (some ⟨a, 0, none⟩) [vars, (cs.length : Int)] → Calls Tryd.prog 64 #[.string ⟨#[112, 32, 99, 110, 102]⟩, .slice (some ⟨a, 0, none⟩) 2 2] W fun e w' => e = .returned (.string ⟨(headB vars cs.length).toArray⟩) ∧ Below W.heap.size W w') := fun W a hW ii => lof_any [112, 32, 99, 110, 102] (some ⟨a, 0, none⟩) 2 [vars, (cs.length : Int)] W (by simp) (by simp) (fun z hz => by
      simp at hz
      rcases hz with rfl | rfl
      · exact ⟨by omega, by omega⟩
      · exact ⟨by omega, by omega⟩) ii (ht.below hW)
    have E47 : Hid (∀ W, Below w.heap.size w W → Calls Tryd.prog 47 #[.string ⟨(headB vars cs.length).toArray⟩, .slice sl cs.length cap] W fun e w' => e = .returned (.string ⟨(cnfT vars (bareC cs)).toArray⟩) ∧ Below W.heap.size W w') := fun W hW => by
      have := ct_any (headB vars cs.length) sl cap (bareC cs) W (by have := headB_le vars cs.length hv h4; omega) (cnfR_lines hr hw) (hz.below hW).rowC (ht.below hW)
      rw [hln, ← LT.out] at this
      exact this
    clear hz hw ht hr LT hln hv
    generalize headB vars cs.length = hd at *
    generalize cnfT vars (bareC cs) = t at *
    generalize cs.length = n at *
    clear cs
    go_enter Tryd.func30, Tryd.ntmps30
    go_wp2_with fail
    generalize w.alloc (.cells #[.int .i64 vars, .slice sl n cap] 27) = w0 at *
    refine E1.out.mono ?_
    rintro e w1 ⟨rfl, b1⟩
    have D1 := Lib.hid (bT B0.out b1)
    have C1 := Lib.hid (CA.out.below b1)
    have KB : Hid (∀ W, Below w1.heap.size w1 W → w.heap.size < W.heap.size ∧ W.cell? ⟨w.heap.size, 0, none⟩ = some (.int .i64 vars) ∧ W.cell? ⟨w.heap.size, 1, none⟩ = some (.slice sl n cap)) := fun W hW => by
      obtain ⟨k0, k1⟩ := (C1.out.below hW).cells
      exact ⟨(C1.out.below hW).lt, k0, k1⟩
    clear b1 E1 CA B0
    go_wp2_with fail
    refine wp_region_held_drew (S := fun W => w.heap.size < W.heap.size ∧ W.cell? ⟨w.heap.size, 0, none⟩ = some (.int .i64 vars) ∧ W.cell? ⟨w.heap.size, 1, none⟩ = some (.slice sl n cap)) (by kernel_rfl) ?_ (fun hHeld => ?_)
    · exact KB.out _ (Below.refl _ _).drew
    refine wpAnyH_take (i := 0) (oi := _) (v := ?_) rfl (by kernel_rfl) (by kernel_rfl) (by kernel_rfl) (fun _ _ _ h => h) (Or.inl ⟨by rfl, ?_⟩) (by assumption) ?_
    rotate_left
    · first | (intro w hSw; (try dsimp only at hSw); go_simp; done) | (intro w hSw; (try dsimp only at hSw); go_simp; with_reducible rfl)
    try simp only [Act.put, List.setIfInBounds_toArray, List.set_cons_zero, List.set_cons_succ, List.getElem_toArray, List.getElem_cons_zero]
    refine wpAnyH_take (i := 1) (oi := _) (v := ?_) rfl (by kernel_rfl) (by kernel_rfl) (by kernel_rfl) (fun _ _ _ h => h) (Or.inl ⟨by rfl, ?_⟩) (by assumption) ?_
    rotate_left
    · first | (intro w hSw; (try dsimp only at hSw); go_simp; done) | (intro w hSw; (try dsimp only at hSw); go_simp; with_reducible rfl)
    try simp only [Act.put, List.setIfInBounds_toArray, List.set_cons_zero, List.set_cons_succ, List.getElem_toArray, List.getElem_cons_succ, List.getElem_cons_zero]
    refine wpAnyH_take (i := 2) (oi := _) (v := ?_) rfl (by kernel_rfl) (by kernel_rfl) (by kernel_rfl) (fun _ _ _ h => h) (Or.inl ⟨by rfl, ?_⟩) (by assumption) ?_
    rotate_left
    · first | (intro w hSw; (try dsimp only at hSw); go_simp; done) | (intro w hSw; (try dsimp only at hSw); go_simp; with_reducible rfl)
    try simp only [Act.put, List.setIfInBounds_toArray, List.set_cons_zero, List.set_cons_succ, List.getElem_toArray, List.getElem_cons_succ, List.getElem_cons_zero]
    refine wpAnyH_take (i := 3) (oi := _) (v := ?_) rfl (by kernel_rfl) (by kernel_rfl) (by kernel_rfl) (fun _ _ _ h => h) (Or.inl ⟨by rfl, ?_⟩) (by assumption) ?_
    rotate_left
    · first | (intro w hSw; (try dsimp only at hSw); go_simp; done) | (intro w hSw; (try dsimp only at hSw); go_simp; with_reducible rfl)
    try simp only [Act.put, List.setIfInBounds_toArray, List.set_cons_zero, List.set_cons_succ, List.getElem_toArray, List.getElem_cons_succ, List.getElem_cons_zero]
    refine wpAnyH_take (i := 4) (oi := _) (v := ?_) rfl (by kernel_rfl) (by kernel_rfl) (by kernel_rfl) (fun _ _ _ h => h) (Or.inl ⟨by rfl, ?_⟩) (by assumption) ?_
    rotate_left
    · first | (intro w hSw; (try dsimp only at hSw); go_simp; done) | (intro w hSw; (try dsimp only at hSw); go_simp; with_reducible rfl)
    try simp only [Act.put, List.setIfInBounds_toArray, List.set_cons_zero, List.set_cons_succ, List.getElem_toArray, List.getElem_cons_succ, List.getElem_cons_zero]
    refine wpAnyH_take (i := 7) (oi := _) (v := ?_) rfl (by kernel_rfl) (by kernel_rfl) (by kernel_rfl) (fun _ _ _ h => h) (Or.inl ⟨by rfl, ?_⟩) (by assumption) ?_
    rotate_left
    · first | (intro w hSw; (try dsimp only at hSw); go_simp; done) | (intro w hSw; (try dsimp only at hSw); go_simp; with_reducible rfl)
    try simp only [Act.put, List.setIfInBounds_toArray, List.set_cons_zero, List.set_cons_succ, List.getElem_toArray, List.getElem_cons_succ, List.getElem_cons_zero]
    refine wpAnyH_take (i := 8) (oi := _) (v := ?_) rfl (by kernel_rfl) (by kernel_rfl) (by kernel_rfl) (fun _ _ _ h => h) (Or.inl ⟨by rfl, ?_⟩) (by assumption) ?_
    rotate_left
    · first | (intro w hSw; (try dsimp only at hSw); go_simp; done) | (intro w hSw; (try dsimp only at hSw); go_simp; with_reducible rfl)
    try simp only [Act.put, List.setIfInBounds_toArray, List.set_cons_zero, List.set_cons_succ, List.getElem_toArray, List.getElem_cons_succ, List.getElem_cons_zero]
    refine wpAnyH_ready (rs := [5]) (by kernel_rfl) (by simp) ?_
    refine AllReadyH.cons rfl (fun K hK => ?_) AllReadyH.nil
    go_simp
    refine hK.out _ _ ?_ (fun hHeld => ?_)
    · exact KB.out _ (bA (Below.refl _ _) _).drew
    clear hK K
    refine wpAnyH_ready (rs := [6]) (by kernel_rfl) (by simp) ?_
    refine AllReadyH.cons rfl (fun K hK => ?_) AllReadyH.nil
    go_simp
    go_wp2_with (go_at_call 64; refine (E64.out _ w1.heap.size (bA D1.out _).drew (ints2 w1 vars n)).mono ?_; rintro e w2 ⟨rfl, b2⟩)
    have F2 : Hid (Below w1.heap.size w1 w2) := bT (bA (Below.refl w1.heap.size w1) _).drew b2
    have D2 := Lib.hid (bT D1.out F2.out)
    clear b2
    refine hK.out _ _ ?_ (fun hHeld => ?_)
    · exact KB.out _ F2.out
    clear hK K
    refine wpAnyH_ready (rs := [9]) (by kernel_rfl) (by simp) ?_
    refine AllReadyH.cons rfl (fun K hK => ?_) AllReadyH.nil
    go_simp
    go_wp2_with (go_at_call 47; refine (E47.out _ D2.out).mono ?_; rintro e w3 ⟨rfl, b3⟩)
    have F3 : Hid (Below w1.heap.size w1 w3) := bT F2.out b3
    have D3 := Lib.hid (bT D1.out F3.out)
    clear b3
    refine hK.out _ _ ?_ (fun hHeld => ?_)
    · exact KB.out _ F3.out
    clear hK K
    refine wpAnyH_take (i := 10) (oi := _) (v := ?_) rfl (by kernel_rfl) (by kernel_rfl) (by kernel_rfl) (fun _ _ _ h => h) (Or.inl ⟨by rfl, ?_⟩) (by assumption) ?_
    rotate_left
    · first | (intro w hSw; (try dsimp only at hSw); go_simp; done) | (intro w hSw; (try dsimp only at hSw); go_simp; with_reducible rfl)
    try simp only [Act.put, List.setIfInBounds_toArray, List.set_cons_zero, List.set_cons_succ, List.getElem_toArray, List.getElem_cons_succ, List.getElem_cons_zero]
    refine wpAnyH_done (by kernel_rfl) ?_ _
    clear KB E64 E47 F2 D2
    go_wp2
    go_ret
    exact ⟨rfl, D3.out⟩
  · rw [B_no hr] at E1
    rw [cnfT_no hr]
    clear hz hw ht hr CA
    generalize cs.length = n at *
    go_enter Tryd.func30, Tryd.ntmps30
    go_wp2_with fail
    generalize w.alloc (.cells #[.int .i64 vars, .slice sl n cap] 27) = w0 at *
    refine E1.out.mono ?_
    rintro e w1 ⟨rfl, b1⟩
    have D1 := Lib.hid (bT B0.out b1)
    clear b1 E1
    go_wp2
    go_ret
    exact ⟨rfl, D1.out⟩
end Go.Proofs.YtcnpdjjfcfkcfaaDoor
