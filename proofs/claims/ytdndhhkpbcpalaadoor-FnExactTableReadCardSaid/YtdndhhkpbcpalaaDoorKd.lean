/-
  A TABLE WITH A PAIR'S LINE BEHIND IT: impl.withNumbers.
-/
import Derived.Test.YtdndhhkpbcpalaaDoorKc
import Derived.Deep.RegionLaw
namespace Go.Proofs.YtdndhhkpbcpalaaDoor
open Go.RowKit
set_option linter.unusedVariables false
set_option linter.unusedSimpArgs false

set_option maxRecDepth 100000 in
set_option maxHeartbeats 8000000 in
/-- A pair's line. -/
theorem wn_pair (C : Nat) (v1 v2 : Value) (rs : List LSt) (ps : List LPr) (k a b : Int) (ds : List Int) (g kap : Nat) (w : World) (h : OwT w C v1 v2 rs ps) (hB : C ≤ w.heap.size) (hp : ps.length ≤ 100000) (hd : ds.length ≤ 100000) (hk3 : k ≠ 3)
    (hz : w.ownsRow C 2 1 (.slice (some ⟨g, 0, none⟩) (a :: b :: ds).length kap) (a :: b :: ds).length (valsZ (a :: b :: ds))) (hw : ∀ p ∈ ps ++ [(a, b, k)], WfP p) (TR0 : TR38) :
    Calls Tryd.prog 24 #[.agg #[v1, v2], .int .i64 k, .slice (some ⟨g, 0, none⟩) (ds.length + 2) kap] w fun e w' => WnPost C v1 v2 w (B (ds = [] ∧ TabR rs (ps ++ [(a, b, k)]))) rs (ps ++ [(a, b, k)]) e w' := by
  obtain ⟨i0, hi0, hz0, hz1, hz2⟩ := info_parts infoPr
  have cz0 := hz.cellAt 0 (by simp)
  have cz1 := hz.cellAt 1 (by simp)
  simp [valsZ] at cz0 cz1
  obtain ⟨sl2, cap2, rfl, hpr⟩ := own_pr h
  have H := Lib.hid h
  have TR := Lib.hid TR0
  have HW := Lib.hid hw
  clear TR0 hw
  have hg : g < w.heap.size := by
    rcases hz.2 with ⟨hv, _⟩ | ⟨g', c', cur, hv, _, hgb, _⟩
    · simp at hv
    · injection hv with e1; injection e1 with e1; injection e1 with e1; subst e1; exact (Array.getElem?_eq_some_iff.1 hgb).1
  obtain ⟨sl, cap, hv1, -⟩ := own_st h
  subst hv1
  clear h hz hpr
  have hn2 : ¬ ((ds.length + 2 : Nat) : Int) < 2 := by omega
  have B0 := Lib.hid (bA (bA0 w (.cells #[.slice sl rs.length cap, .slice sl2 ps.length cap2] 25)) (.cells #[.slice none 0 0, .slice none 0 0] 25))
  have N0 := Lib.hid (new_at w (.cells #[.slice sl rs.length cap, .slice sl2 ps.length cap2] 25))
  go_enter Tryd.func24, Tryd.ntmps24
  go_wp2_with fail
  have M0 : Hid (((w.alloc (.cells #[.slice sl rs.length cap, .slice sl2 ps.length cap2] 25)).alloc (.cells #[.slice none 0 0, .slice none 0 0] 25)).heap[w.heap.size]? = some (.cells #[.slice sl rs.length cap, .slice sl2 ps.length cap2] 25)) := ((bA0 (w.alloc (.cells #[.slice sl rs.length cap, .slice sl2 ps.length cap2] 25)) (.cells #[.slice none 0 0, .slice none 0 0] 25)).block w.heap.size (by simp)).trans N0.out
  have M1 : Hid (((w.alloc (.cells #[.slice sl rs.length cap, .slice sl2 ps.length cap2] 25)).alloc (.cells #[.slice none 0 0, .slice none 0 0] 25)).heap[w.heap.size + 1]? = some (.cells #[.slice none 0 0, .slice none 0 0] 25)) := by
    have := new_at (w.alloc (.cells #[.slice sl rs.length cap, .slice sl2 ps.length cap2] 25)) (.cells #[.slice none 0 0, .slice none 0 0] 25)
    have hs1 : (w.alloc (.cells #[.slice sl rs.length cap, .slice sl2 ps.length cap2] 25)).heap.size = w.heap.size + 1 := by simp
    rw [hs1] at this
    exact this
  have hsz : ((w.alloc (.cells #[.slice sl rs.length cap, .slice sl2 ps.length cap2] 25)).alloc (.cells #[.slice none 0 0, .slice none 0 0] 25)).heap.size = w.heap.size + 1 + 1 := by simp
  have H0 := Lib.hid (H.out.below B0.out)
  have q0 := (B0.out.cell hg).trans cz0
  have q1 := (B0.out.cell hg).trans cz1
  generalize (w.alloc (.cells #[.slice sl rs.length cap, .slice sl2 ps.length cap2] 25)).alloc (.cells #[.slice none 0 0, .slice none 0 0] 25) = w0 at *
  clear N0 H cz0 cz1
  have hF0 : (0 : Int) < (ds.length : Int) + 2 := by omega
  have hF1 : (1 : Int) < (ds.length : Int) + 2 := by omega
  have hDr := Lib.hid ((Below.refl w0.heap.size w0).drew)
  have HO := Lib.hid (H0.out.below hDr.out)
  have NB0 := own_diffB H0.out.r2 M0.out (by decide)
  have NB1 := own_diffB H0.out.r2 M1.out (by decide)
  have c0 := cellsAt M0.out
  have hcn := Lib.hid (cell_three_new w0.drew (.int .i64 a) (.int .i64 b) (.int .i64 k) 47)
  have hsd : w0.drew.heap.size = w.heap.size + 1 + 1 := hsz
  rw [hsd] at hcn
  clear hsd
  go_region_law (refine step_append_lies _ rfl (.tmp 39) (.tmp 48) 23 rfl C 47 i0 _ 3 24 Tryd.underlying23 hi0 hz0 hz1 hz2 rfl (by decide) (.slice sl2 ps.length cap2) ps.length (prC ps) (by simp [Act.eval]) (HO.out.r2.alloc _) ⟨w.heap.size + 1 + 1, 0, none⟩ 1 1 [.int .i64 a, .int .i64 b, .int .i64 k] (by simp [Act.eval]) rfl hcn.out (by simp [Value.oneCell']) (by decide) (by unfold maxLen; omega) (by omega) (by have := B0.out.size; simp; omega) _ rfl ?_; intro g9 cap9 w9 own9 grow9 hg9 hlt9; have M9 := Lib.hid ((grow9.block w.heap.size (by simp; omega) (fun e => NB0 e.symm)).trans (((bA0 w0.drew _).block w.heap.size (by show _ < w0.heap.size; omega)).trans M0.out)); have M91 := Lib.hid ((grow9.block (w.heap.size + 1) (by simp; omega) (fun e => NB1 e.symm)).trans (((bA0 w0.drew _).block (w.heap.size + 1) (by show _ < w0.heap.size; omega)).trans M1.out)); have c9 := cellsAt M9.out; have B9 := Lib.hid (((bA (bT B0.out hDr.out) _).mono hB).grown grow9 (by have := B0.out.size; simp; omega) (fun k hk => (World.ownsRow.lt H0.out.r2 k hk).1)); have K9 : Hid (Keep2 (.slice sl rs.length cap) (.slice sl2 ps.length cap2) w w9) := fun k hk h1 h2 => (grow9.block k (by have := B0.out.size; simp; omega) (fun e => h2 e.symm)).trans ((bA (bT B0.out hDr.out) _).block k hk); have C9 := Lib.hid ((HO.out.below (bA0 _ _)).addP (p := (a, b, k)) grow9 own9); have HG9 := Lib.hid grow9.size; clear own9 grow9 hg9 hlt9)
  all_goals
    have M10 := Lib.hid (heap_setCell_same w9 w.heap.size 1 _ 25 (.slice (some ⟨g9, 0, none⟩) (ps.length + 1) cap9) M9.out)
    have M101 := Lib.hid ((Below.heap_setCell w9 ⟨w.heap.size, 1, none⟩ (.slice (some ⟨g9, 0, none⟩) (ps.length + 1) cap9) (w.heap.size + 1) (by simp)).trans M91.out)
    have C10 := Lib.hid (C9.out.keptB M9.out (grown_set w9 w.heap.size 1 (.slice (some ⟨g9, 0, none⟩) (ps.length + 1) cap9)))
    have B10 := Lib.hid (B9.out.grown (grown_set w9 w.heap.size 1 (.slice (some ⟨g9, 0, none⟩) (ps.length + 1) cap9)) (by have := B9.out.size; omega) (fun k hk => by cases hk; exact hB))
    have K10 : Hid (Keep2 (.slice sl rs.length cap) (.slice sl2 ps.length cap2) w (w9.setCell ⟨w.heap.size, 1, none⟩ (.slice (some ⟨g9, 0, none⟩) (ps.length + 1) cap9))) := fun k hk h1 h2 => (Below.heap_setCell w9 ⟨w.heap.size, 1, none⟩ (.slice (some ⟨g9, 0, none⟩) (ps.length + 1) cap9) k (by show k ≠ w.heap.size; omega)).trans (K9.out k hk h1 h2)
    have hs10 : (w9.setCell ⟨w.heap.size, 1, none⟩ (.slice (some ⟨g9, 0, none⟩) (ps.length + 1) cap9)).heap.size = w9.heap.size := by simp [World.setCell]
    have hl1 : w.heap.size + 1 < (w9.setCell ⟨w.heap.size, 1, none⟩ (.slice (some ⟨g9, 0, none⟩) (ps.length + 1) cap9)).heap.size := by have := HG9.out; rw [hs10]; simp at this; omega
    generalize w9.setCell ⟨w.heap.size, 1, none⟩ (.slice (some ⟨g9, 0, none⟩) (ps.length + 1) cap9) = w10 at *
    have hl0 : w.heap.size < w10.heap.size := by omega
    clear K9 M9 M91 C9 B9 hs10 c9 HG9 c0 hcn HO hDr NB0 NB1
    have e10 : w10.cell? ⟨w.heap.size, 0, none⟩ = some (.slice sl rs.length cap) := by rw [(cellsAt M10.out).1]; rfl
    have e11 : w10.cell? ⟨w.heap.size, 1, none⟩ = some (.slice (some ⟨g9, 0, none⟩) (ps.length + 1) cap9) := by rw [(cellsAt M10.out).1]; rfl
    have TC : Hid (∀ W, Below w10.heap.size w10 W → Calls Tryd.prog 38 #[.agg #[.slice sl rs.length cap, .slice (some ⟨g9, 0, none⟩) (ps.length + 1) cap9]] W fun e w' => e = .returned (.bool (B (TabR rs (ps ++ [(a, b, k)])))) ∧ Below W.heap.size W w') := fun W hW => by
      have hC := C10.out.below hW
      obtain ⟨s1, k1, ev, hst⟩ := own_st hC
      obtain ⟨s2, k2, ev2, hpr⟩ := own_pr hC
      have := TR.out s1 k1 s2 k2 _ _ W hst hpr HW.out
      rw [ev, ev2]
      exact this
    go_wp2_with fail
    by_cases hds : ds = []
    · have hE1 : ((ds.length : Int) + 2 = 2) = True := by subst hds; simp
      have hE2 : ((ds.length : Int) + 2 == 2) = true := by subst hds; simp
      have HF : Hid (B (TabR rs (ps ++ [(a, b, k)])) = B (ds = [] ∧ TabR rs (ps ++ [(a, b, k)]))) := by show _ = _; congr 1; simp [hds]
      refine wp_region_held_drew (S := fun W => W.cell? ⟨w.heap.size, 0, none⟩ = some (.slice sl rs.length cap) ∧ W.cell? ⟨w.heap.size, 1, none⟩ = some (.slice (some ⟨g9, 0, none⟩) (ps.length + 1) cap9)) (by kernel_rfl) ?_ (fun hHeld => ?_)
      · exact ⟨((Below.refl w10.heap.size w10).drew.cell hl0).trans e10, ((Below.refl w10.heap.size w10).drew.cell hl0).trans e11⟩
      refine wpAnyH_take (i := 0) (oi := _) (v := ?_) rfl (by kernel_rfl) (by kernel_rfl) (by kernel_rfl) (fun _ _ _ h => h) (Or.inl ⟨by rfl, ?_⟩) (by assumption) ?_
      rotate_left
      · first | (intro w hSw; (try dsimp only at hSw); go_simp; done) | (intro w hSw; (try dsimp only at hSw); go_simp; with_reducible rfl)
      try simp only [Act.put, List.setIfInBounds_toArray, List.set_cons_zero, List.set_cons_succ, List.getElem_toArray, List.getElem_cons_zero]
      refine wpAnyH_take (i := 1) (oi := _) (v := ?_) rfl (by kernel_rfl) (by kernel_rfl) (by kernel_rfl) (fun _ _ _ h => h) (Or.inl ⟨by rfl, ?_⟩) (by assumption) ?_
      rotate_left
      · first | (intro w hSw; (try dsimp only at hSw); go_simp; done) | (intro w hSw; (try dsimp only at hSw); go_simp; with_reducible rfl)
      try simp only [Act.put, List.setIfInBounds_toArray, List.set_cons_zero, List.set_cons_succ, List.getElem_toArray, List.getElem_cons_succ, List.getElem_cons_zero]
      refine wpAnyH_take (i := 2) (oi := _) (v := ?_) rfl (by kernel_rfl) (by kernel_rfl) (by kernel_rfl) (fun _ _ _ h => h) (Or.inl ⟨by rfl, ?_⟩) (by assumption) ?_
      rotate_left
      · first | (intro w hSw; (try dsimp only at hSw); go_simp; done) | (intro w hSw; (try dsimp only at hSw); go_simp; with_reducible rfl)
      try simp only [Act.put, List.setIfInBounds_toArray, List.set_cons_zero, List.set_cons_succ, List.getElem_toArray, List.getElem_cons_succ, List.getElem_cons_zero]
      refine wpAnyH_take (i := 3) (oi := _) (v := ?_) rfl (by kernel_rfl) (by kernel_rfl) (by kernel_rfl) (fun _ _ _ h => h) (Or.inl ⟨by rfl, ?_⟩) (by assumption) ?_
      rotate_left
      · first | (intro w hSw; (try dsimp only at hSw); go_simp; done) | (intro w hSw; (try dsimp only at hSw); go_simp; with_reducible rfl)
      try simp only [Act.put, List.setIfInBounds_toArray, List.set_cons_zero, List.set_cons_succ, List.getElem_toArray, List.getElem_cons_succ, List.getElem_cons_zero]
      refine wpAnyH_take (i := 4) (oi := _) (v := ?_) rfl (by kernel_rfl) (by kernel_rfl) (by kernel_rfl) (fun _ _ _ h => h) (Or.inl ⟨by rfl, ?_⟩) (by assumption) ?_
      rotate_left
      · first | (intro w hSw; (try dsimp only at hSw); go_simp; done) | (intro w hSw; (try dsimp only at hSw); go_simp; with_reducible rfl)
      try simp only [Act.put, List.setIfInBounds_toArray, List.set_cons_zero, List.set_cons_succ, List.getElem_toArray, List.getElem_cons_succ, List.getElem_cons_zero]
      refine wpAnyH_take (i := 5) (oi := _) (v := ?_) rfl (by kernel_rfl) (by kernel_rfl) (by kernel_rfl) (fun _ _ _ h => h) (Or.inl ⟨by rfl, ?_⟩) (by assumption) ?_
      rotate_left
      · first | (intro w hSw; (try dsimp only at hSw); go_simp; done) | (intro w hSw; (try dsimp only at hSw); go_simp; with_reducible rfl)
      try simp only [Act.put, List.setIfInBounds_toArray, List.set_cons_zero, List.set_cons_succ, List.getElem_toArray, List.getElem_cons_succ, List.getElem_cons_zero]
      refine wpAnyH_ready (rs := [6]) (by kernel_rfl) (by simp) ?_
      refine AllReadyH.cons rfl (fun K hK => ?_) AllReadyH.nil
      go_simp
      go_wp2_with (go_at_call 38; refine (TC.out _ ((Below.refl _ _).drew)).mono ?_; rintro e w11 ⟨rfl, b11⟩; have B11 := Lib.hid (((Below.refl w10.heap.size w10).drew).trans b11); have c11 := cellsAt ((B11.out.block (w.heap.size + 1) (by omega)).trans M101.out); clear b11)
      refine hK.out _ _ ?_ (fun hHeld => ?_)
      · exact ⟨(B11.out.cell hl0).trans e10, (B11.out.cell hl0).trans e11⟩
      clear hK K
      refine wpAnyH_take (i := 7) (oi := _) (v := ?_) rfl (by kernel_rfl) (by kernel_rfl) (by kernel_rfl) (fun _ _ _ h => h) (Or.inl ⟨by rfl, ?_⟩) (by assumption) ?_
      rotate_left
      · first | (intro w hSw; (try dsimp only at hSw); go_simp; done) | (intro w hSw; (try dsimp only at hSw); go_simp; with_reducible rfl)
      try simp only [Act.put, List.setIfInBounds_toArray, List.set_cons_zero, List.set_cons_succ, List.getElem_toArray, List.getElem_cons_succ, List.getElem_cons_zero]
      refine wpAnyH_ready (rs := [8]) (by kernel_rfl) (by simp) ?_
      refine AllReadyH.cons rfl (fun K hK => ?_) AllReadyH.nil
      go_simp
      go_wp2
      refine hK.out _ _ ?_ (fun hHeld => ?_)
      · exact ⟨(set2_cell _ _ _ _ _ _ (by omega)).trans ((B11.out.cell hl0).trans e10), (set2_cell _ _ _ _ _ _ (by omega)).trans ((B11.out.cell hl0).trans e11)⟩
      clear hK K
      refine wpAnyH_take (i := 9) (oi := _) (v := ?_) rfl (by kernel_rfl) (by kernel_rfl) (by kernel_rfl) (fun _ _ _ h => h) (Or.inl ⟨by rfl, ?_⟩) (by assumption) ?_
      rotate_left
      · first | (intro w hSw; (try dsimp only at hSw); go_simp; done) | (intro w hSw; (try dsimp only at hSw); go_simp; with_reducible rfl)
      try simp only [Act.put, List.setIfInBounds_toArray, List.set_cons_zero, List.set_cons_succ, List.getElem_toArray, List.getElem_cons_succ, List.getElem_cons_zero]
      refine wpAnyH_done (by kernel_rfl) ?_ _
      have M110 := (B11.out.block (w.heap.size + 1) (by omega)).trans M101.out
      have C11 := C10.out.below B11.out
      have BWZ := B10.out.trans (B11.out.mono (by have := B10.out.size; omega))
      rename_i hh3 hh4
      clear hh3 hh4
      have M12a := heap_setCell_same w11 (w.heap.size + 1) 0 _ 25 (.slice sl rs.length cap) M110
      have M12 := heap_setCell_same _ (w.heap.size + 1) 1 _ 25 (.slice (some ⟨g9, 0, none⟩) (ps.length + 1) cap9) M12a
      have C12 := Lib.hid ((C11.keptB M110 (grown_set w11 (w.heap.size + 1) 0 (.slice sl rs.length cap))).keptB M12a (grown_set _ (w.heap.size + 1) 1 (.slice (some ⟨g9, 0, none⟩) (ps.length + 1) cap9)))
      have K12 : Hid (Keep2 (.slice sl rs.length cap) (.slice sl2 ps.length cap2) w ((w11.setCell ⟨w.heap.size + 1, 0, none⟩ (.slice sl rs.length cap)).setCell ⟨w.heap.size + 1, 1, none⟩ (.slice (some ⟨g9, 0, none⟩) (ps.length + 1) cap9))) := fun k hk h1 h2 => ((Below.heap_setCell _ _ _ k (by show k ≠ w.heap.size + 1; omega)).trans (Below.heap_setCell _ _ _ k (by show k ≠ w.heap.size + 1; omega))).trans ((B11.out.block k (by omega)).trans (K10.out k hk h1 h2))
      have B12 := Lib.hid ((BWZ.setCell (p := ⟨w.heap.size + 1, 0, none⟩) (by show C ≤ w.heap.size + 1; omega) (.slice sl rs.length cap)).setCell (p := ⟨w.heap.size + 1, 1, none⟩) (by show C ≤ w.heap.size + 1; omega) (.slice (some ⟨g9, 0, none⟩) (ps.length + 1) cap9))
      clear hHeld M110 M12a
      generalize (w11.setCell ⟨w.heap.size + 1, 0, none⟩ (.slice sl rs.length cap)).setCell ⟨w.heap.size + 1, 1, none⟩ (.slice (some ⟨g9, 0, none⟩) (ps.length + 1) cap9) = w12 at *
      have r0 : w12.cell? ⟨w.heap.size + 1, 0, none⟩ = some (.slice sl rs.length cap) := by rw [(cellsAt M12).1]; rfl
      have r1 : w12.cell? ⟨w.heap.size + 1, 1, none⟩ = some (.slice (some ⟨g9, 0, none⟩) (ps.length + 1) cap9) := by rw [(cellsAt M12).1]; rfl
      clear M12
      go_wp2
      exact bodyPost_ret (v := .tuple #[.agg #[.slice sl rs.length cap, .slice (some ⟨g9, 0, none⟩) (ps.length + 1) cap9], .bool (B (TabR rs (ps ++ [(a, b, k)])))]) (by simp [results, Tryd.results24, go_sem, r0, r1]) rfl ⟨_, _, by rw [HF.out], C12.out, B12.out, K12.out⟩
    · have hE1 : ((ds.length : Int) + 2 = 2) = False := by simp only [eq_iff_iff, iff_false]; intro h; exact hds (List.eq_nil_of_length_eq_zero (by omega))
      have hE2 : ((ds.length : Int) + 2 == 2) = false := by rw [beq_eq_false_iff_ne]; intro h; exact hds (List.eq_nil_of_length_eq_zero (by omega))
      have HF : Hid (false = B (ds = [] ∧ TabR rs (ps ++ [(a, b, k)]))) := (B_no (fun h => hds h.1)).symm
      have e10d := ((Below.refl w10.heap.size w10).drew.cell hl0).trans e10
      have e11d := ((Below.refl w10.heap.size w10).drew.cell hl0).trans e11
      have M110 : w10.drew.heap[w.heap.size + 1]? = _ := M101.out
      have C11 := C10.out.below ((Below.refl w10.heap.size w10).drew)
      have BWZ := B10.out.drew
      have HWD : ∀ k, k < w10.heap.size → w10.drew.heap[k]? = w10.heap[k]? := fun k hk => rfl
      refine wp_region_held_drew (S := fun W => W.cell? ⟨w.heap.size, 0, none⟩ = some (.slice sl rs.length cap) ∧ W.cell? ⟨w.heap.size, 1, none⟩ = some (.slice (some ⟨g9, 0, none⟩) (ps.length + 1) cap9)) (by kernel_rfl) ?_ (fun hHeld => ?_)
      · exact ⟨e10d, e11d⟩
      generalize w10.drew = wd at *
      have c11 := cellsAt M110
      refine wpAnyH_take (i := 0) (oi := _) (v := ?_) rfl (by kernel_rfl) (by kernel_rfl) (by kernel_rfl) (fun _ _ _ h => h) (Or.inl ⟨by rfl, ?_⟩) (by assumption) ?_
      rotate_left
      · first | (intro w hSw; (try dsimp only at hSw); go_simp; done) | (intro w hSw; (try dsimp only at hSw); go_simp; with_reducible rfl)
      try simp only [Act.put, List.setIfInBounds_toArray, List.set_cons_zero, List.set_cons_succ, List.getElem_toArray, List.getElem_cons_zero]
      refine wpAnyH_take (i := 1) (oi := _) (v := ?_) rfl (by kernel_rfl) (by kernel_rfl) (by kernel_rfl) (fun _ _ _ h => h) (Or.inl ⟨by rfl, ?_⟩) (by assumption) ?_
      rotate_left
      · first | (intro w hSw; (try dsimp only at hSw); go_simp; done) | (intro w hSw; (try dsimp only at hSw); go_simp; with_reducible rfl)
      try simp only [Act.put, List.setIfInBounds_toArray, List.set_cons_zero, List.set_cons_succ, List.getElem_toArray, List.getElem_cons_succ, List.getElem_cons_zero]
      refine wpAnyH_take (i := 2) (oi := _) (v := ?_) rfl (by kernel_rfl) (by kernel_rfl) (by kernel_rfl) (fun _ _ _ h => h) (Or.inl ⟨by rfl, ?_⟩) (by assumption) ?_
      rotate_left
      · first | (intro w hSw; (try dsimp only at hSw); go_simp; done) | (intro w hSw; (try dsimp only at hSw); go_simp; with_reducible rfl)
      try simp only [Act.put, List.setIfInBounds_toArray, List.set_cons_zero, List.set_cons_succ, List.getElem_toArray, List.getElem_cons_succ, List.getElem_cons_zero]
      refine wpAnyH_take (i := 3) (oi := _) (v := ?_) rfl (by kernel_rfl) (by kernel_rfl) (by kernel_rfl) (fun _ _ _ h => h) (Or.inl ⟨by rfl, ?_⟩) (by assumption) ?_
      rotate_left
      · first | (intro w hSw; (try dsimp only at hSw); go_simp; done) | (intro w hSw; (try dsimp only at hSw); go_simp; with_reducible rfl)
      try simp only [Act.put, List.setIfInBounds_toArray, List.set_cons_zero, List.set_cons_succ, List.getElem_toArray, List.getElem_cons_succ, List.getElem_cons_zero]
      refine wpAnyH_take (i := 4) (oi := _) (v := ?_) rfl (by kernel_rfl) (by kernel_rfl) (by kernel_rfl) (fun _ _ _ h => h) (Or.inl ⟨by rfl, ?_⟩) (by assumption) ?_
      rotate_left
      · first | (intro w hSw; (try dsimp only at hSw); go_simp; done) | (intro w hSw; (try dsimp only at hSw); go_simp; with_reducible rfl)
      try simp only [Act.put, List.setIfInBounds_toArray, List.set_cons_zero, List.set_cons_succ, List.getElem_toArray, List.getElem_cons_succ, List.getElem_cons_zero]
      refine wpAnyH_take (i := 5) (oi := _) (v := undef) rfl (by kernel_rfl) (by kernel_rfl) (by kernel_rfl) (fun _ _ _ h => h) (Or.inr ⟨by rfl, rfl⟩) (by assumption) ?_
      try simp only [Act.put, List.setIfInBounds_toArray, List.set_cons_zero, List.set_cons_succ, List.getElem_toArray, List.getElem_cons_succ, List.getElem_cons_zero]
      refine wpAnyH_take (i := 6) (oi := _) (v := undef) rfl (by kernel_rfl) (by kernel_rfl) (by kernel_rfl) (fun _ _ _ h => h) (Or.inr ⟨by rfl, rfl⟩) (by assumption) ?_
      try simp only [Act.put, List.setIfInBounds_toArray, List.set_cons_zero, List.set_cons_succ, List.getElem_toArray, List.getElem_cons_succ, List.getElem_cons_zero]
      refine wpAnyH_take (i := 7) (oi := _) (v := ?_) rfl (by kernel_rfl) (by kernel_rfl) (by kernel_rfl) (fun _ _ _ h => h) (Or.inl ⟨by rfl, ?_⟩) (by assumption) ?_
      rotate_left
      · first | (intro w hSw; (try dsimp only at hSw); go_simp; done) | (intro w hSw; (try dsimp only at hSw); go_simp; with_reducible rfl)
      try simp only [Act.put, List.setIfInBounds_toArray, List.set_cons_zero, List.set_cons_succ, List.getElem_toArray, List.getElem_cons_succ, List.getElem_cons_zero]
      refine wpAnyH_ready (rs := [8]) (by kernel_rfl) (by simp) ?_
      refine AllReadyH.cons rfl (fun K hK => ?_) AllReadyH.nil
      go_simp
      go_wp2
      refine hK.out _ _ ?_ (fun hHeld => ?_)
      · exact ⟨(set2_cell _ _ _ _ _ _ (by omega)).trans e10d, (set2_cell _ _ _ _ _ _ (by omega)).trans e11d⟩
      clear hK K
      refine wpAnyH_take (i := 9) (oi := _) (v := ?_) rfl (by kernel_rfl) (by kernel_rfl) (by kernel_rfl) (fun _ _ _ h => h) (Or.inl ⟨by rfl, ?_⟩) (by assumption) ?_
      rotate_left
      · first | (intro w hSw; (try dsimp only at hSw); go_simp; done) | (intro w hSw; (try dsimp only at hSw); go_simp; with_reducible rfl)
      try simp only [Act.put, List.setIfInBounds_toArray, List.set_cons_zero, List.set_cons_succ, List.getElem_toArray, List.getElem_cons_succ, List.getElem_cons_zero]
      refine wpAnyH_done (by kernel_rfl) ?_ _
      rename_i hh3
      clear hh3
      have M12a := heap_setCell_same wd (w.heap.size + 1) 0 _ 25 (.slice sl rs.length cap) M110
      have M12 := heap_setCell_same _ (w.heap.size + 1) 1 _ 25 (.slice (some ⟨g9, 0, none⟩) (ps.length + 1) cap9) M12a
      have C12 := Lib.hid ((C11.keptB M110 (grown_set wd (w.heap.size + 1) 0 (.slice sl rs.length cap))).keptB M12a (grown_set _ (w.heap.size + 1) 1 (.slice (some ⟨g9, 0, none⟩) (ps.length + 1) cap9)))
      have K12 : Hid (Keep2 (.slice sl rs.length cap) (.slice sl2 ps.length cap2) w ((wd.setCell ⟨w.heap.size + 1, 0, none⟩ (.slice sl rs.length cap)).setCell ⟨w.heap.size + 1, 1, none⟩ (.slice (some ⟨g9, 0, none⟩) (ps.length + 1) cap9))) := fun k hk h1 h2 => ((Below.heap_setCell _ _ _ k (by show k ≠ w.heap.size + 1; omega)).trans (Below.heap_setCell _ _ _ k (by show k ≠ w.heap.size + 1; omega))).trans ((HWD k (by omega)).trans (K10.out k hk h1 h2))
      have B12 := Lib.hid ((BWZ.setCell (p := ⟨w.heap.size + 1, 0, none⟩) (by show C ≤ w.heap.size + 1; omega) (.slice sl rs.length cap)).setCell (p := ⟨w.heap.size + 1, 1, none⟩) (by show C ≤ w.heap.size + 1; omega) (.slice (some ⟨g9, 0, none⟩) (ps.length + 1) cap9))
      clear hHeld M110 M12a
      generalize (wd.setCell ⟨w.heap.size + 1, 0, none⟩ (.slice sl rs.length cap)).setCell ⟨w.heap.size + 1, 1, none⟩ (.slice (some ⟨g9, 0, none⟩) (ps.length + 1) cap9) = w12 at *
      have r0 : w12.cell? ⟨w.heap.size + 1, 0, none⟩ = some (.slice sl rs.length cap) := by rw [(cellsAt M12).1]; rfl
      have r1 : w12.cell? ⟨w.heap.size + 1, 1, none⟩ = some (.slice (some ⟨g9, 0, none⟩) (ps.length + 1) cap9) := by rw [(cellsAt M12).1]; rfl
      clear M12
      go_wp2
      exact bodyPost_ret (v := .tuple #[.agg #[.slice sl rs.length cap, .slice (some ⟨g9, 0, none⟩) (ps.length + 1) cap9], .bool false]) (by simp [results, Tryd.results24, go_sem, r0, r1]) rfl ⟨_, _, by rw [HF.out], C12.out, B12.out, K12.out⟩

end Go.Proofs.YtdndhhkpbcpalaaDoor
