/-
  TWO STATIONS OF A PAIR HELD AGAINST OTHER TWO; a list of such is sorted.
-/
import Derived.Test.YtgfclllfkpblnaaShelf
import Derived.Test.YtgfclllfkpblnaaAf
import Derived.Deep.RegionHeldLaw
namespace Go.Proofs.Ytgfclllfkpblnaa
open Go.RowKit
set_option linter.unusedVariables false

set_option maxHeartbeats 400000 in
theorem nan_any (x : Int) (w : World) : Calls Try.prog 65 #[.int .i64 x] w fun e w' => e = .returned (.bool false) ∧ w' = w := by
  go_enter Try.func65, Try.ntmps65
  go_wp2
  go_ret
  exact ⟨by simp, rfl⟩
/-- -1, 0 or 1. -/
def cmpI (x y : Int) : Int := if x < y then -1 else if y < x then 1 else 0
set_option maxHeartbeats 400000 in
theorem cmp_any (x y : Int) (w : World) : Calls Try.prog 54 #[.int .i64 x, .int .i64 y] w fun e w' => e = .returned (.int .i64 (cmpI x y)) ∧ w' = w := by
  have N := Lib.hid nan_any
  by_cases h1 : x < y
  · have e : cmpI x y = -1 := by simp [cmpI, h1]
    rw [e]; clear e
    go_enter Try.func54, Try.ntmps54
    go_wp2_with (go_at_call 65; refine (N.out _ _).mono ?_; rintro e w' ⟨rfl, rfl⟩)
    go_ret
    exact ⟨rfl, rfl⟩
  · by_cases h2 : y < x
    · have e : cmpI x y = 1 := by simp [cmpI, h1, h2]
      rw [e]; clear e
      go_enter Try.func54, Try.ntmps54
      go_wp2_with (go_at_call 65; refine (N.out _ _).mono ?_; rintro e w' ⟨rfl, rfl⟩)
      go_ret
      exact ⟨rfl, rfl⟩
    · have e : cmpI x y = 0 := by simp [cmpI, h1, h2]
      rw [e]; clear e
      go_enter Try.func54, Try.ntmps54
      go_wp2_with (go_at_call 65; refine (N.out _ _).mono ?_; rintro e w' ⟨rfl, rfl⟩)
      go_ret
      exact ⟨rfl, rfl⟩
/-- The first that is not nought. -/
def orI (a b : Int) : Int := if a ≠ 0 then a else b
set_option maxHeartbeats 1000000 in
theorem or_any (g : Nat) (a b : Int) (w : World) (h0 : w.cell? ⟨g, 0, none⟩ = some (.int .i64 a)) (h1 : w.cell? ⟨g, 1, none⟩ = some (.int .i64 b)) : Calls Try.prog 53 #[.slice (some ⟨g, 0, none⟩) 2 2] w fun e w' => e = .returned (.int .i64 (orI a b)) ∧ w' = w := by
  by_cases ha : a = 0
  · have ha' : (a != 0) = false := by simp [ha]
    by_cases hb : b = 0
    · have hb' : (b != 0) = false := by simp [hb]
      have e : orI a b = 0 := by simp [orI, ha, hb]
      rw [e]; clear e ha hb
      go_enter Try.func53, Try.ntmps53
      go_wp2
      refine wp_loop_rounds 3 ?_
      rw [rounds_succ]
      go_wp2
      rw [rounds_succ]
      go_wp2
      rw [rounds_succ]
      go_wp2
      go_ret
      exact ⟨rfl, rfl⟩
    · have hb' : (b != 0) = true := by simp [hb]
      have e : orI a b = b := by simp [orI, ha]
      rw [e]; clear e ha hb
      go_enter Try.func53, Try.ntmps53
      go_wp2
      refine wp_loop_rounds 3 ?_
      rw [rounds_succ]
      go_wp2
      rw [rounds_succ]
      go_wp2
      go_ret
      exact ⟨rfl, rfl⟩
  · have ha' : (a != 0) = true := by simp [ha]
    have e : orI a b = a := by simp [orI, ha]
    rw [e]; clear e ha
    go_enter Try.func53, Try.ntmps53
    go_wp2
    refine wp_loop_rounds 3 ?_
    rw [rounds_succ]
    go_wp2
    go_ret
    exact ⟨rfl, rfl⟩
/-- compareEnds. -/
def cmpE (x y : Int × Int) : Int := orI (cmpI x.1 y.1) (cmpI x.2 y.2)
theorem cmpE_lt (x y : Int × Int) : cmpE x y < 0 ↔ Lt2 x y := by
  unfold cmpE orI cmpI Lt2
  by_cases h1 : x.1 < y.1
  · simp [h1]
  · by_cases h2 : y.1 < x.1
    · simp [h1, h2]; omega
    · have e : x.1 = y.1 := by omega
      by_cases h3 : x.2 < y.2
      · simp [e, h3]
      · by_cases h4 : y.2 < x.2 <;> simp [e, h3, h4]
abbrev EV (x : Int × Int) : Value := .agg #[.int .i64 x.1, .int .i64 x.2]

set_option maxHeartbeats 1000000 in
theorem cmpE_any (x y : Int × Int) (w : World) : Calls Try.prog 50 #[EV x, EV y] w fun e w' => e = .returned (.int .i64 (cmpE x y)) ∧ ∃ q os', w' = Go.Sort.grow (w.drewN q) os' := by
  have C := Lib.hid cmp_any
  have O := Lib.hid or_any
  obtain ⟨x1, x2⟩ := x
  obtain ⟨y1, y2⟩ := y
  have E := Lib.hid (show cmpE (x1, x2) (y1, y2) = orI (cmpI x1 y1) (cmpI x2 y2) from rfl)
  rw [E.out]
  clear E
  have EA := Lib.hid (fun W => C.out x1 y1 W)
  have EB := Lib.hid (fun W => C.out x2 y2 W)
  generalize cmpI x1 y1 = a at *
  generalize cmpI x2 y2 = b at *
  clear C
  have hb0 : ((w.alloc (.cells #[.int .i64 x1, .int .i64 x2] 83)).alloc (.cells #[.int .i64 y1, .int .i64 y2] 83)).heap[w.heap.size]? = some (.cells #[.int .i64 x1, .int .i64 x2] 83) := by
    show ((w.heap.push _).push _)[w.heap.size]? = _
    rw [Array.getElem?_push_lt (by simp)]; simp
  have hb1 : ((w.alloc (.cells #[.int .i64 x1, .int .i64 x2] 83)).alloc (.cells #[.int .i64 y1, .int .i64 y2] 83)).heap[w.heap.size + 1]? = some (.cells #[.int .i64 y1, .int .i64 y2] 83) := by
    show ((w.heap.push _).push _)[w.heap.size + 1]? = _
    have := Array.getElem?_push_size (xs := w.heap.push (.cells #[.int .i64 x1, .int .i64 x2] 83)) (x := Obj.cells #[.int .i64 y1, .int .i64 y2] 83)
    simpa using this
  have hsz : ((w.alloc (.cells #[.int .i64 x1, .int .i64 x2] 83)).alloc (.cells #[.int .i64 y1, .int .i64 y2] 83)).heap.size = w.heap.size + 2 := by simp
  have EQ : Hid ((w.alloc (.cells #[.int .i64 x1, .int .i64 x2] 83)).alloc (.cells #[.int .i64 y1, .int .i64 y2] 83) = Go.Sort.grow w #[.cells #[.int .i64 x1, .int .i64 x2] 83, .cells #[.int .i64 y1, .int .i64 y2] 83]) := by
    show _ = _
    rw [Go.Sort.alloc_eq_grow, Go.Sort.alloc_eq_grow, Go.Sort.grow_grow]; rfl
  go_enter Try.func50, Try.ntmps50
  go_wp2_with fail
  generalize (w.alloc (.cells #[.int .i64 x1, .int .i64 x2] 83)).alloc (.cells #[.int .i64 y1, .int .i64 y2] 83) = W0 at *
  have KB : Hid (∀ W, Below W0.heap.size W0 W → w.heap.size < W.heap.size ∧ w.heap.size + 1 < W.heap.size ∧ W.cell? ⟨w.heap.size, 0, none⟩ = some (.int .i64 x1) ∧ W.cell? ⟨w.heap.size, 1, none⟩ = some (.int .i64 x2) ∧ W.cell? ⟨w.heap.size + 1, 0, none⟩ = some (.int .i64 y1) ∧ W.cell? ⟨w.heap.size + 1, 1, none⟩ = some (.int .i64 y2)) := by
    intro W hW
    have hs := hW.size
    have b0 := (hW.block w.heap.size (by omega)).trans hb0
    have b1 := (hW.block (w.heap.size + 1) (by omega)).trans hb1
    refine ⟨by omega, by omega, ?_, ?_, ?_, ?_⟩ <;> simp [World.cell?, b0, b1]
  have N0 : Hid ((W0.drew.alloc (.cells #[.int .i64 a, .int .i64 b] 3)).cell? ⟨W0.heap.size, 0, none⟩ = some (.int .i64 a)) := by
    have hh : (W0.drew.alloc (.cells #[.int .i64 a, .int .i64 b] 3)).heap[W0.heap.size]? = some (.cells #[.int .i64 a, .int .i64 b] 3) := by show (W0.heap.push _)[W0.heap.size]? = _; simp
    show _ = _
    simp only [World.cell?, hh]; rfl
  have N1 : Hid ((W0.drew.alloc (.cells #[.int .i64 a, .int .i64 b] 3)).cell? ⟨W0.heap.size, 1, none⟩ = some (.int .i64 b)) := by
    have hh : (W0.drew.alloc (.cells #[.int .i64 a, .int .i64 b] 3)).heap[W0.heap.size]? = some (.cells #[.int .i64 a, .int .i64 b] 3) := by show (W0.heap.push _)[W0.heap.size]? = _; simp
    show _ = _
    simp only [World.cell?, hh]; rfl
  clear hb0 hb1 hsz
  refine wp_region_held_drew (S := fun W => w.heap.size < W.heap.size ∧ w.heap.size + 1 < W.heap.size ∧ W.cell? ⟨w.heap.size, 0, none⟩ = some (.int .i64 x1) ∧ W.cell? ⟨w.heap.size, 1, none⟩ = some (.int .i64 x2) ∧ W.cell? ⟨w.heap.size + 1, 0, none⟩ = some (.int .i64 y1) ∧ W.cell? ⟨w.heap.size + 1, 1, none⟩ = some (.int .i64 y2)) (by kernel_rfl) ?_ (fun hHeld => ?_)
  · exact KB.out _ (Below.refl _ _).drew
  refine wpAnyH_take (i := 0) (oi := _) (v := ?_) rfl (by kernel_rfl) (by kernel_rfl) (by kernel_rfl) (fun _ _ _ h => h) (Or.inl ⟨by rfl, ?_⟩) (by assumption) ?_
  rotate_left
  · first | (intro w hSw; (try dsimp only at hSw); go_simp; done) | (intro w hSw; (try dsimp only at hSw); go_simp; with_reducible rfl)
  try simp only [Act.put, List.setIfInBounds_toArray, List.set_cons_zero, List.set_cons_succ, List.getElem_toArray, List.getElem_cons_zero]
  refine wpAnyH_take (i := 1) (oi := _) (v := ?_) rfl (by kernel_rfl) (by kernel_rfl) (by kernel_rfl) (fun _ _ _ h => h) (Or.inl ⟨by rfl, ?_⟩) (by assumption) ?_
  rotate_left
  · first | (intro w hSw; (try dsimp only at hSw); go_simp; done) | (intro w hSw; (try dsimp only at hSw); go_simp; with_reducible rfl)
  try simp only [Act.put, List.setIfInBounds_toArray, List.set_cons_zero, List.set_cons_succ, List.getElem_toArray, List.getElem_cons_succ, List.getElem_cons_zero]
  refine wpAnyH_take (i := 2) (oi := _) (v := ?_) rfl (by kernel_rfl) (by kernel_rfl) (by kernel_rfl) (fun _ _ _ h => h) (Or.inl ⟨by rfl, ?_⟩) (by assumption) ?_
  rotate_left
  · first | (intro w hSw; (try dsimp only at hSw); go_simp; done) | (intro w hSw; (try dsimp only at hSw); go_simp; with_reducible rfl)
  try simp only [Act.put, List.setIfInBounds_toArray, List.set_cons_zero, List.set_cons_succ, List.getElem_toArray, List.getElem_cons_succ, List.getElem_cons_zero]
  refine wpAnyH_take (i := 3) (oi := _) (v := ?_) rfl (by kernel_rfl) (by kernel_rfl) (by kernel_rfl) (fun _ _ _ h => h) (Or.inl ⟨by rfl, ?_⟩) (by assumption) ?_
  rotate_left
  · first | (intro w hSw; (try dsimp only at hSw); go_simp; done) | (intro w hSw; (try dsimp only at hSw); go_simp; with_reducible rfl)
  try simp only [Act.put, List.setIfInBounds_toArray, List.set_cons_zero, List.set_cons_succ, List.getElem_toArray, List.getElem_cons_succ, List.getElem_cons_zero]
  refine wpAnyH_take (i := 5) (oi := _) (v := ?_) rfl (by kernel_rfl) (by kernel_rfl) (by kernel_rfl) (fun _ _ _ h => h) (Or.inl ⟨by rfl, ?_⟩) (by assumption) ?_
  rotate_left
  · first | (intro w hSw; (try dsimp only at hSw); go_simp; done) | (intro w hSw; (try dsimp only at hSw); go_simp; with_reducible rfl)
  try simp only [Act.put, List.setIfInBounds_toArray, List.set_cons_zero, List.set_cons_succ, List.getElem_toArray, List.getElem_cons_succ, List.getElem_cons_zero]
  refine wpAnyH_take (i := 6) (oi := _) (v := ?_) rfl (by kernel_rfl) (by kernel_rfl) (by kernel_rfl) (fun _ _ _ h => h) (Or.inl ⟨by rfl, ?_⟩) (by assumption) ?_
  rotate_left
  · first | (intro w hSw; (try dsimp only at hSw); go_simp; done) | (intro w hSw; (try dsimp only at hSw); go_simp; with_reducible rfl)
  try simp only [Act.put, List.setIfInBounds_toArray, List.set_cons_zero, List.set_cons_succ, List.getElem_toArray, List.getElem_cons_succ, List.getElem_cons_zero]
  refine wpAnyH_take (i := 7) (oi := _) (v := ?_) rfl (by kernel_rfl) (by kernel_rfl) (by kernel_rfl) (fun _ _ _ h => h) (Or.inl ⟨by rfl, ?_⟩) (by assumption) ?_
  rotate_left
  · first | (intro w hSw; (try dsimp only at hSw); go_simp; done) | (intro w hSw; (try dsimp only at hSw); go_simp; with_reducible rfl)
  try simp only [Act.put, List.setIfInBounds_toArray, List.set_cons_zero, List.set_cons_succ, List.getElem_toArray, List.getElem_cons_succ, List.getElem_cons_zero]
  refine wpAnyH_take (i := 8) (oi := _) (v := ?_) rfl (by kernel_rfl) (by kernel_rfl) (by kernel_rfl) (fun _ _ _ h => h) (Or.inl ⟨by rfl, ?_⟩) (by assumption) ?_
  rotate_left
  · first | (intro w hSw; (try dsimp only at hSw); go_simp; done) | (intro w hSw; (try dsimp only at hSw); go_simp; with_reducible rfl)
  try simp only [Act.put, List.setIfInBounds_toArray, List.set_cons_zero, List.set_cons_succ, List.getElem_toArray, List.getElem_cons_succ, List.getElem_cons_zero]
  refine wpAnyH_ready (rs := [4]) (by kernel_rfl) (by simp) ?_
  refine AllReadyH.cons rfl (fun K hK => ?_) AllReadyH.nil
  go_simp
  go_wp2_with (go_at_call 54; refine (EA.out _).mono ?_; rintro e w' ⟨rfl, rfl⟩)
  refine hK.out _ _ ?_ (fun hHeld => ?_)
  · exact KB.out _ (Below.refl _ _).drew
  clear hK K
  refine wpAnyH_ready (rs := [9]) (by kernel_rfl) (by simp) ?_
  refine AllReadyH.cons rfl (fun K hK => ?_) AllReadyH.nil
  go_simp
  go_wp2_with (go_at_call 54; refine (EB.out _).mono ?_; rintro e w' ⟨rfl, rfl⟩)
  refine hK.out _ _ ?_ (fun hHeld => ?_)
  · exact KB.out _ (Below.refl _ _).drew
  clear hK K
  refine wpAnyH_ready (rs := [10]) (by kernel_rfl) (by simp) ?_
  refine AllReadyH.cons rfl (fun K hK => ?_) AllReadyH.nil
  go_simp
  refine hK.out _ _ ?_ (fun hHeld => ?_)
  · exact KB.out _ ((Below.refl _ _).drew.alloc (Nat.le_refl _) _)
  clear hK K
  refine wpAnyH_ready (rs := [11]) (by kernel_rfl) (by simp) ?_
  refine AllReadyH.cons rfl (fun K hK => ?_) AllReadyH.nil
  go_simp
  go_wp2_with (go_at_call 53; refine (O.out _ a b _ N0.out N1.out).mono ?_; rintro e w' ⟨rfl, rfl⟩)
  refine hK.out _ _ ?_ (fun hHeld => ?_)
  · exact KB.out _ ((Below.refl _ _).drew.alloc (Nat.le_refl _) _)
  clear hK K
  refine wpAnyH_take (i := 12) (oi := _) (v := ?_) rfl (by kernel_rfl) (by kernel_rfl) (by kernel_rfl) (fun _ _ _ h => h) (Or.inl ⟨by rfl, ?_⟩) (by assumption) ?_
  rotate_left
  · first | (intro w hSw; (try dsimp only at hSw); go_simp; done) | (intro w hSw; (try dsimp only at hSw); go_simp; with_reducible rfl)
  try simp only [Act.put, List.setIfInBounds_toArray, List.set_cons_zero, List.set_cons_succ, List.getElem_toArray, List.getElem_cons_succ, List.getElem_cons_zero]
  refine wpAnyH_done (by kernel_rfl) ?_ _
  go_wp2
  go_ret
  refine ⟨rfl, 1, #[.cells #[.int .i64 x1, .int .i64 x2] 83, .cells #[.int .i64 y1, .int .i64 y2] 83, .cells #[.int .i64 a, .int .i64 b] 3], ?_⟩
  rw [EQ.out, Go.Sort.alloc_eq_grow]
  show Go.Sort.grow (Go.Sort.grow (w.drewN 1) _) _ = _
  rw [Go.Sort.grow_grow]
  rfl

open Go.Sort Go.Shelf Go.Lib in
theorem cmpLays (blk off size : Nat) (w : World) : CmpLays Try.prog 50 #[] (fun x : Int × Int => [.int .i64 x.1, .int .i64 x.2]) 2 cmpE blk off size w :=
  fun _ _ _ _ x y => cmpE_any x y _
open Go.Sort in
theorem ltOf_cmpE (x y : Int × Int) : ltOf cmpE x y = true ↔ Lt2 x y := by
  unfold ltOf
  rw [decide_eq_true_iff]; exact cmpE_lt x y
open Go.Sort in
theorem swoE : SWO (ltOf cmpE) where
  irrefl x := by
    cases h : ltOf cmpE x x
    · rfl
    · exact absurd ((ltOf_cmpE x x).1 h) (Lt2.irr x)
  trans x y z h1 h2 := (ltOf_cmpE x z).2 (((ltOf_cmpE x y).1 h1).trans ((ltOf_cmpE y z).1 h2))
  ntrans x y z h1 h2 := by
    cases h : ltOf cmpE x z
    · rfl
    · have h' := (ltOf_cmpE x z).1 h
      have n1 : ¬ Lt2 x y := fun e => by have := (ltOf_cmpE x y).2 e; rw [h1] at this; cases this
      have n2 : ¬ Lt2 y z := fun e => by have := (ltOf_cmpE y z).2 e; rw [h2] at this; cases this
      unfold Lt2 at *
      omega
end Go.Proofs.Ytgfclllfkpblnaa
