/-
  IS A PLAN RIGHT? As both sides answer it.
  THE TRUES OF A PLAN: impl.TruesOf.
  THE VARIABLES AS THE MODEL GATHERS THEM: spec.l06Vars.
-/
import Derived.Test.YtdmfljejlhlbnaaJak
import Derived.Test.YtdmfljejlhlbnaaJaj
import Derived.Test.YtdmfljejlhlbnaaJal
import Derived.Test.YtdmfljejlhlbnaaJai
namespace Go.Proofs.Ytdmfljejlhlbnaa
open Go.RowKit
set_option linter.unusedVariables false

/-- What PlanRight answers. -/
noncomputable def planB (rs : List LSt) (ps : List LPr) (top : Int) (pl : List LPl) : Bool := decide (pl.length ≤ 400) && (faultA rs ps top pl == 0)
set_option maxRecDepth 100000 in
set_option maxHeartbeats 1000000 in
/-- impl.PlanRight. -/
theorem ipr_any (sl : Option Addr) (cap : Nat) (sl2 : Option Addr) (cap2 : Nat) (sl3 : Option Addr) (cap3 : Nat) (rs : List LSt) (ps : List LPr) (pl : List LPl) (top : Int) (w : World) (hn : rs.length ≤ 1048576) (hl : pl.length ≤ 1048576) (hz : Sts w sl rs) (hp : Prs w sl2 ps) (hw : ∀ p ∈ ps, WfP p) (hi : Pls w sl3 pl) (hc3 : pl.length ≤ cap3) :
    Calls Try.prog 19 #[TV sl rs.length cap sl2 ps.length cap2, .int .i64 top, .slice sl3 pl.length cap3] w fun e w' => e = .returned (.bool (planB rs ps top pl)) ∧ Below w.heap.size w w' := by
  have HT := Lib.hid (TabAt.new w sl rs.length cap sl2 ps.length cap2)
  have B0 := Lib.hid (bA0 w (.cells #[.slice sl rs.length cap, .slice sl2 ps.length cap2] 26))
  have E : Hid (∀ W, Below w.heap.size w W → Calls Try.prog 20 #[TV sl rs.length cap sl2 ps.length cap2, .int .i64 top, .slice sl3 pl.length cap3] W fun e w' => e = .returned (.int .i64 (faultA rs ps top pl)) ∧ Below W.heap.size W w') := fun W hW => ipf_any sl cap sl2 cap2 sl3 cap3 rs ps pl top W hn hl (hz.below hW) (hp.below hW) hw (hi.below hW) hc3
  clear hz hp hw hi
  obtain ⟨t0, t1⟩ := HT.out.cells
  have tl := HT.out.lt
  unfold planB
  by_cases h4 : pl.length ≤ 400
  · have h4' : (pl.length : Int) ≤ 400 := by omega
    rw [decide_eq_true h4, Bool.true_and]
    generalize faultA rs ps top pl = f at *
    generalize rs.length = n at *
    generalize ps.length = m at *
    generalize pl.length = l at *
    go_enter Try.func19, Try.ntmps19
    go_wp2_with fail
    refine (E.out _ B0.out).mono ?_
    rintro e w1 ⟨rfl, b1⟩
    have D1 := Lib.hid (bT B0.out b1)
    clear b1 E
    go_wp2
    go_ret
    exact ⟨rfl, D1.out⟩
  · have h4' : ¬ (pl.length : Int) ≤ 400 := by omega
    rw [decide_eq_false h4, Bool.false_and]
    generalize rs.length = n at *
    generalize ps.length = m at *
    generalize pl.length = l at *
    go_enter Try.func19, Try.ntmps19
    go_wp2
    go_ret
    exact ⟨rfl, B0.out⟩

set_option maxRecDepth 100000 in
set_option maxHeartbeats 1000000 in
/-- spec.PlanRight. -/
theorem spr_any (sl : Option Addr) (cap : Nat) (sl2 : Option Addr) (cap2 : Nat) (sl3 : Option Addr) (cap3 : Nat) (rs : List LSt) (ps : List LPr) (pl : List LPl) (top : Int) (w : World) (hn : rs.length ≤ 1048576) (hl : pl.length ≤ 1048576) (hz : Sts w sl rs) (hp : Prs w sl2 ps) (hi : Pls w sl3 pl) :
    Calls Try.prog 22 #[TV sl rs.length cap sl2 ps.length cap2, .int .i64 top, .slice sl3 pl.length cap3] w fun e w' => e = .returned (.bool (planB rs ps top pl)) ∧ Below w.heap.size w w' := by
  have HT := Lib.hid (TabAt.new w sl rs.length cap sl2 ps.length cap2)
  have B0 := Lib.hid (bA0 w (.cells #[.slice sl rs.length cap, .slice sl2 ps.length cap2] 26))
  have E : Hid (∀ W, Below w.heap.size w W → Calls Try.prog 80 #[TV sl rs.length cap sl2 ps.length cap2, .int .i64 top, .slice sl3 pl.length cap3] W fun e w' => e = .returned (.int .i64 (faultA rs ps top pl)) ∧ Below W.heap.size W w') := fun W hW => spf_any sl cap sl2 cap2 sl3 cap3 rs ps pl top W hn hl (hz.below hW) (hp.below hW) (hi.below hW)
  clear hz hp hi
  obtain ⟨t0, t1⟩ := HT.out.cells
  have tl := HT.out.lt
  unfold planB
  by_cases h4 : pl.length ≤ 400
  · have h4' : (pl.length : Int) ≤ 400 := by omega
    rw [decide_eq_true h4, Bool.true_and]
    generalize faultA rs ps top pl = f at *
    generalize rs.length = n at *
    generalize ps.length = m at *
    generalize pl.length = l at *
    go_enter Try.func22, Try.ntmps22
    go_wp2_with fail
    refine (E.out _ B0.out).mono ?_
    rintro e w1 ⟨rfl, b1⟩
    have D1 := Lib.hid (bT B0.out b1)
    clear b1 E
    go_wp2
    go_ret
    exact ⟨rfl, D1.out⟩
  · have h4' : ¬ (pl.length : Int) ≤ 400 := by omega
    rw [decide_eq_false h4, Bool.false_and]
    generalize rs.length = n at *
    generalize ps.length = m at *
    generalize pl.length = l at *
    go_enter Try.func22, Try.ntmps22
    go_wp2
    go_ret
    exact ⟨rfl, B0.out⟩

end Go.Proofs.Ytdmfljejlhlbnaa
namespace Go.Proofs.Ytdmfljejlhlbnaa
open Go.RowKit
set_option linter.unusedVariables false

/-- The variables of the first k places that are in the plan. -/
noncomputable def trK (pl places : List LPl) (k : Nat) : List Int := ((List.range k).filter fun i => B (places.getD i (0, 0) ∈ pl)).map fun (i : Nat) => (i : Int) + 1
theorem trK_yes (pl places : List LPl) (k : Nat) (h : B (places.getD k (0, 0) ∈ pl) = true) : trK pl places (k + 1) = trK pl places k ++ [(k : Int) + 1] := by
  have e : List.filter (fun i => B (places.getD i (0, 0) ∈ pl)) [k] = [k] := by rw [List.filter_cons_of_pos (p := fun i => B (places.getD i (0, 0) ∈ pl)) h]; rfl
  unfold trK
  rw [List.range_succ, List.filter_append, List.map_append, e]
  rfl
theorem trK_no (pl places : List LPl) (k : Nat) (h : B (places.getD k (0, 0) ∈ pl) = false) : trK pl places (k + 1) = trK pl places k := by
  have e : List.filter (fun i => B (places.getD i (0, 0) ∈ pl)) [k] = [] := by rw [List.filter_cons_of_neg (p := fun i => B (places.getD i (0, 0) ∈ pl)) (by rw [h]; exact Bool.false_ne_true)]; rfl
  unfold trK
  rw [List.range_succ, List.filter_append, List.map_append, e]
  exact List.append_nil _
theorem trK_len (pl places : List LPl) (k : Nat) : (trK pl places k).length ≤ k := by
  unfold trK
  rw [List.length_map]
  exact Nat.le_trans (List.length_filter_le _ _) (by simp)
/-- What TruesOf answers. -/
noncomputable def trA (rs : List LSt) (ps : List LPr) (top : Int) (pl : List LPl) : List Int := if planB rs ps top pl = true then trK pl (plF rs top (pidsL pl)) (plF rs top (pidsL pl)).length else []
theorem planB_ids {rs : List LSt} {ps : List LPr} {top : Int} {pl : List LPl} (h : planB rs ps top pl = true) : pl.length ≤ 400 ∧ IdsR rs ps (pidsL pl) := by
  unfold planB at h
  rw [Bool.and_eq_true] at h
  have h1 : pl.length ≤ 400 := of_decide_eq_true h.1
  refine ⟨h1, ?_⟩
  have h2 := h.2
  unfold faultA at h2
  rw [if_pos h1] at h2
  cases hb : B (IdsR rs ps (pidsL pl)) with
  | true => exact B_true hb
  | false => rw [hb] at h2; simp at h2
theorem plF_le {rs : List LSt} {ps : List LPr} (top : Int) (ids : List Int) (h : TabR rs ps) : (plF rs top ids).length ≤ 96 * ids.length := by
  induction ids with
  | nil => simp [plF]
  | cons a t ih =>
    have e : plF rs top (a :: t) = chF rs top a ++ plF rs top t := by simp [plF]
    have := dom_le rs ps a top h
    rw [e, List.length_append, List.length_cons]
    unfold chF
    rw [List.length_map]
    omega
theorem pidsA_eq {pl : List LPl} (h : pl.length ≤ 400) : pidsA pl = pidsL pl := by unfold pidsA; rw [if_pos h]

set_option maxRecDepth 100000 in
set_option maxHeartbeats 4000000 in
/-- impl.TruesOf. -/
theorem ito_any (sl : Option Addr) (cap : Nat) (sl2 : Option Addr) (cap2 : Nat) (sl3 : Option Addr) (cap3 : Nat) (rs : List LSt) (ps : List LPr) (pl : List LPl) (top : Int) (w : World) (hn : rs.length ≤ 1048576) (hl : pl.length ≤ 1048576) (hz : Sts w sl rs) (hp : Prs w sl2 ps) (hw : ∀ p ∈ ps, WfP p) (hi : Pls w sl3 pl) (hc3 : pl.length ≤ cap3) :
    Calls Try.prog 23 #[TV sl rs.length cap sl2 ps.length cap2, .int .i64 top, .slice sl3 pl.length cap3] w fun e w' => ∃ v, e = .returned v ∧ w'.ownsRow w.heap.size 2 1 v (trA rs ps top pl).length (valsZ (trA rs ps top pl)) ∧ Below w.heap.size w w' := by
  obtain ⟨i0, hi0, hz0, hz1, hz2⟩ := info_parts info2'
  have HT := Lib.hid (TabAt.new w sl rs.length cap sl2 ps.length cap2)
  have B0 := Lib.hid (bA0 w (.cells #[.slice sl rs.length cap, .slice sl2 ps.length cap2] 26))
  have E1 : Hid (∀ W, Below w.heap.size w W → Calls Try.prog 19 #[TV sl rs.length cap sl2 ps.length cap2, .int .i64 top, .slice sl3 pl.length cap3] W fun e w' => e = .returned (.bool (planB rs ps top pl)) ∧ Below W.heap.size W w') := fun W hW => ipr_any sl cap sl2 cap2 sl3 cap3 rs ps pl top W hn hl (hz.below hW) (hp.below hW) hw (hi.below hW) hc3
  cases hb : planB rs ps top pl with
  | false =>
    have TA : trA rs ps top pl = [] := by unfold trA; rw [hb]; rfl
    rw [TA]
    rw [hb] at E1
    clear hb hz hp hw hi TA
    generalize rs.length = rn at *
    generalize ps.length = pn at *
    generalize pl.length = m at *
    go_enter Try.func23, Try.ntmps23
    go_wp2_with fail
    refine (E1.out _ B0.out).mono ?_
    rintro e w1 ⟨rfl, b1⟩
    have D1 := Lib.hid (bT B0.out b1)
    clear b1 E1
    go_wp2
    go_ret
    exact ⟨_, rfl, ⟨rfl, .inl ⟨rfl, rfl⟩⟩, D1.out⟩
  | true =>
    rw [hb] at E1
    obtain ⟨h400, IR⟩ := planB_ids hb
    have TA : trA rs ps top pl = trK pl (plF rs top (pidsL pl)) (plF rs top (pidsL pl)).length := by unfold trA; rw [hb]; rfl
    rw [TA]
    have hpl : (plF rs top (pidsL pl)).length ≤ 38400 := by
      have := plF_le top (pidsL pl) IR.2.1
      rw [pidsL_len] at this
      omega
    have E2 : Hid (∀ W, Below w.heap.size w W → Calls Try.prog 72 #[.slice sl3 pl.length cap3] W fun e w' => ∃ s c, e = .returned (.slice s (pidsL pl).length c) ∧ Ints w' s (pidsL pl) ∧ Below W.heap.size W w') := fun W hW => by
      have := ipi_any sl3 cap3 pl W (by unfold maxLen; omega) (hi.below hW)
      rw [pidsA_eq h400] at this
      refine this.mono ?_
      rintro e w' ⟨v, rfl, o, b⟩
      obtain ⟨s, c, rfl, i⟩ := own_ints o
      exact ⟨s, c, rfl, i, b⟩
    have E3 : Hid (∀ s c W, Below w.heap.size w W → Ints W s (pidsL pl) → Calls Try.prog 82 #[TV sl rs.length cap sl2 ps.length cap2, .int .i64 top, .slice s (pidsL pl).length c] W fun e w' => ∃ b rows, e = .returned (.slice (some ⟨b, 0, none⟩) (pidsL pl).length (pidsL pl).length) ∧ rows.map (fun r => r.2) = (pidsL pl).map (chF rs top) ∧ Rws w' (some ⟨b, 0, none⟩) rows ∧ Below W.heap.size W w') := fun s c W hW i => ch_any sl cap sl2 cap2 s c rs ps top (pidsL pl) W (by rw [pidsL_len]; exact h400) (hz.below hW) IR.2.1 i
    have E4 : Hid (∀ b rows W, rows.map (fun r => r.2) = (pidsL pl).map (chF rs top) → Rws W (some ⟨b, 0, none⟩) rows → Calls Try.prog 81 #[.slice (some ⟨b, 0, none⟩) (pidsL pl).length (pidsL pl).length] W fun e w' => ∃ v, e = .returned v ∧ w'.ownsRow W.heap.size 34 2 v (plF rs top (pidsL pl)).length (enCells (plF rs top (pidsL pl))) ∧ Below W.heap.size W w') := fun b rows W er r => by
      have hl' : rows.length = (pidsL pl).length := by have := congrArg List.length er; simpa using this
      have := cat_any (some ⟨b, 0, none⟩) (pidsL pl).length rows W (by rw [hl', pidsL_len]; omega) (by rw [flatR_map er]; omega) r
      rwa [hl', flatR_map er] at this
    have E5 : Hid (∀ x y W, Below w.heap.size w W → Calls Try.prog 83 #[.slice sl3 pl.length cap3, .agg #[.int .i64 x, .int .i64 y]] W fun e w' => e = .returned (.bool (B ((x, y) ∈ pl))) ∧ Below W.heap.size W w') := fun x y W hW => phas_any sl3 cap3 pl x y W hl (hi.below hW)
    clear hb hz hp hw hi TA IR
    generalize hPQ : plF rs top (pidsL pl) = qs at *
    clear hPQ
    have LQ := Lib.hid (show (pidsL pl).length ≤ 400 by rw [pidsL_len]; exact h400)
    generalize (pidsL pl).length = idn at *
    generalize rs.length = rn at *
    generalize ps.length = pn at *
    generalize pl.length = m at *
    have hidn := LQ.out
    go_enter Try.func23, Try.ntmps23
    go_wp2_with fail
    refine (E1.out _ B0.out).mono ?_
    rintro e w1 ⟨rfl, b1⟩
    have D1 := Lib.hid (bT B0.out b1)
    have X1 := Lib.hid (HT.out.below b1)
    clear b1 E1 HT
    have KB : Hid (∀ W, Below w1.heap.size w1 W → w.heap.size < W.heap.size ∧ W.cell? ⟨w.heap.size, 0, none⟩ = some (.slice sl rn cap) ∧ W.cell? ⟨w.heap.size, 1, none⟩ = some (.slice sl2 pn cap2)) := fun W hW => by
      obtain ⟨k0, k1⟩ := (X1.out.below hW).cells
      exact ⟨(X1.out.below hW).lt, k0, k1⟩
    go_wp2_with fail
    refine wp_region_held_drew (S := fun W => w.heap.size < W.heap.size ∧ W.cell? ⟨w.heap.size, 0, none⟩ = some (.slice sl rn cap) ∧ W.cell? ⟨w.heap.size, 1, none⟩ = some (.slice sl2 pn cap2)) (by kernel_rfl) ?_ (fun hHeld => ?_)
    · exact KB.out _ (Below.refl _ _).drew
    refine wpAnyH_take (i := 0) (oi := _) (v := ?_) rfl (by kernel_rfl) (by kernel_rfl) (by kernel_rfl) (fun _ _ _ h => h) (Or.inl ⟨by rfl, ?_⟩) (by assumption) ?_
    rotate_left
    · first | (intro w hSw; (try dsimp only at hSw); go_simp; done) | (intro w hSw; (try dsimp only at hSw); go_simp; with_reducible rfl)
    try simp only [Act.put, List.setIfInBounds_toArray, List.set_cons_zero, List.set_cons_succ, List.getElem_toArray, List.getElem_cons_zero]
    refine wpAnyH_take (i := 1) (oi := _) (v := ?_) rfl (by kernel_rfl) (by kernel_rfl) (by kernel_rfl) (fun _ _ _ h => h) (Or.inl ⟨by rfl, ?_⟩) (by assumption) ?_
    rotate_left
    · first | (intro w hSw; (try dsimp only at hSw); go_simp; done) | (intro w hSw; (try dsimp only at hSw); go_simp; with_reducible rfl)
    try simp only [Act.put, List.setIfInBounds_toArray, List.set_cons_zero, List.set_cons_succ, List.getElem_toArray, List.getElem_cons_succ, List.getElem_cons_zero]
    refine wpAnyH_take (i := 2) (oi := _) (v := ?_) rfl (by kernel_rfl) (by kernel_rfl) (by kernel_rfl) (fun _ _ _ h => h) (Or.inl ⟨by rfl, ?_⟩) (by assumption) ?_
    rotate_left
    · first | (intro w hSw; (try dsimp only at hSw); go_simp; done) | (intro w hSw; (try dsimp only at hSw); go_simp; with_reducible rfl)
    try simp only [Act.put, List.setIfInBounds_toArray, List.set_cons_zero, List.set_cons_succ, List.getElem_toArray, List.getElem_cons_succ, List.getElem_cons_zero]
    refine wpAnyH_take (i := 7) (oi := _) (v := ?_) rfl (by kernel_rfl) (by kernel_rfl) (by kernel_rfl) (fun _ _ _ h => h) (Or.inl ⟨by rfl, ?_⟩) (by assumption) ?_
    rotate_left
    · first | (intro w hSw; (try dsimp only at hSw); go_simp; done) | (intro w hSw; (try dsimp only at hSw); go_simp; with_reducible rfl)
    try simp only [Act.put, List.setIfInBounds_toArray, List.set_cons_zero, List.set_cons_succ, List.getElem_toArray, List.getElem_cons_succ, List.getElem_cons_zero]
    refine wpAnyH_ready (rs := [3]) (by kernel_rfl) (by simp) ?_
    refine AllReadyH.cons rfl (fun K hK => ?_) AllReadyH.nil
    go_simp
    go_wp2_with (go_at_call 72; refine (E2.out _ D1.out.drew).mono ?_; rintro e w3 ⟨s3, c3, rfl, z3, b3⟩)
    have F3 : Hid (Below w1.heap.size w1 w3) := bT ((Below.refl w1.heap.size w1).drew) b3
    have D3 := Lib.hid (bT D1.out F3.out)
    have Z3 := Lib.hid z3
    clear b3 z3
    refine hK.out _ _ ?_ (fun hHeld => ?_)
    · exact KB.out _ F3.out
    clear hK K
    refine wpAnyH_ready (rs := [4]) (by kernel_rfl) (by simp) ?_
    refine AllReadyH.cons rfl (fun K hK => ?_) AllReadyH.nil
    go_simp
    go_wp2_with (go_at_call 82; refine (E3.out s3 c3 _ D3.out Z3.out).mono ?_; rintro e w4 ⟨b4, rows, rfl, er, r4, bl4⟩)
    have F4 : Hid (Below w1.heap.size w1 w4) := bT F3.out bl4
    have D4 := Lib.hid (bT D3.out bl4)
    have R4 := Lib.hid r4
    have ER := Lib.hid er
    clear bl4 r4 er
    refine hK.out _ _ ?_ (fun hHeld => ?_)
    · exact KB.out _ F4.out
    clear hK K
    refine wpAnyH_ready (rs := [5]) (by kernel_rfl) (by simp) ?_
    refine AllReadyH.cons rfl (fun K hK => ?_) AllReadyH.nil
    go_simp
    go_wp2_with (go_at_call 81; refine (E4.out b4 rows _ ER.out R4.out).mono ?_; rintro e w5 ⟨v5, rfl, o5, b5⟩)
    have F5 : Hid (Below w1.heap.size w1 w5) := bT F4.out b5
    have D5 := Lib.hid (bT D4.out b5)
    obtain ⟨s5, c5, rfl, z5⟩ := own_pls o5
    have Z5 := Lib.hid z5
    clear b5 o5 z5
    refine hK.out _ _ ?_ (fun hHeld => ?_)
    · exact KB.out _ F5.out
    clear hK K
    refine wpAnyH_take (i := 6) (oi := _) (v := ?_) rfl (by kernel_rfl) (by kernel_rfl) (by kernel_rfl) (fun _ _ _ h => h) (Or.inl ⟨by rfl, ?_⟩) (by assumption) ?_
    rotate_left
    · first | (intro w hSw; (try dsimp only at hSw); go_simp; done) | (intro w hSw; (try dsimp only at hSw); go_simp; with_reducible rfl)
    try simp only [Act.put, List.setIfInBounds_toArray, List.set_cons_zero, List.set_cons_succ, List.getElem_toArray, List.getElem_cons_succ, List.getElem_cons_zero]
    refine wpAnyH_done (by kernel_rfl) ?_ _
    clear KB E2 E3 E4 D4 F4 D3 F3 R4 ER Z3 X1 F5
    generalize hQN : qs.length = q at *
    have HQ := Lib.hid hQN
    clear hQN
    go_wp2_with fail
    go_loopw [7, 22] (fun v i wr => ∃ (k : Nat) (cu : List Int), i = .int .i64 k ∧ k ≤ q ∧ cu.length ≤ k ∧ Hid (cu = trK pl qs k) ∧ Hid (wr.ownsRow w5.heap.size 2 1 v cu.length (valsZ cu)) ∧ Hid (Below w5.heap.size w5 wr)) (fun _ i _ => q - (intOf i).toNat)
    case atStart => exact ⟨0, [], rfl, Nat.zero_le _, Nat.zero_le _, rfl, ⟨rfl, .inl ⟨rfl, rfl⟩⟩, Below.refl _ _⟩
    case round =>
      obtain ⟨k, cu, rfl, hk, hcl, HC, OR, HB⟩ := hrel
      have hk0 : (0 : Int) ≤ (k : Int) := by omega
      by_cases g1 : k < q
      · have g1' : (k : Int) < (q : Int) := by omega
        have hlt : k < qs.length := by rw [HQ.out]; exact g1
        obtain ⟨c, rfl, PA, hcb⟩ : ∃ c, s5 = some ⟨c, 0, none⟩ ∧ PlAt w5 c 0 qs ∧ w4.heap.size ≤ c := by
          rcases Z5.out with e | h
          · rw [e] at hlt; simp at hlt
          · exact h
        obtain ⟨c0, c1⟩ := (PA.below HB.out).cell k hlt
        rw [Nat.zero_add] at c0 c1
        obtain ⟨x, y, hp⟩ : ∃ x y, qs[k] = (x, y) := ⟨_, _, rfl⟩
        rw [hp] at c0 c1
        dsimp only at c0 c1
        have GD := Lib.hid (show qs.getD k (0, 0) = (x, y) by rw [← hp]; simp [hlt])
        have E := Lib.hid (E5.out x y _ (bA (bT D5.out HB.out) (.cells #[.int .i64 x, .int .i64 y] 34)))
        have O2 := Lib.hid (OR.out.alloc (.cells #[.int .i64 x, .int .i64 y] 34))
        have H3 := Lib.hid (bA HB.out (.cells #[.int .i64 x, .int .i64 y] 34))
        have hsw := HB.out.size
        cases hb : B ((x, y) ∈ pl) with
        | true =>
          rw [hb] at E
          have CS := Lib.hid (show cu ++ [(k : Int) + 1] = trK pl qs (k + 1) by rw [HC.out]; exact (trK_yes pl qs k (by rw [GD.out]; exact hb)).symm)
          have EV := Lib.hid (show valsZ cu ++ [.int .i64 ((k : Int) + 1)] = valsZ (cu ++ [(k : Int) + 1]) by simp [valsZ])
          clear hb hp hlt PA HC GD OR
          go_wp2_with fail
          refine E.out.mono ?_
          rintro e w6 ⟨rfl, b6⟩
          have O6 := Lib.hid (own_below O2.out b6)
          have H6 := Lib.hid (bT H3.out b6)
          have hs6 := H6.out.size
          clear b6 E O2 H3 HB
          go_wp2_with (first | (at_builtin; refine wpList_append_lies _ rfl (.tmp 30) (.tmp 33) 40 rfl w5.heap.size 2 i0 (.int .i64 0) 1 8 Try.underlying40 hi0 hz0 hz1 hz2 rfl (by decide) _ _ _ rfl (O6.out.alloc _) ⟨w6.heap.size, 0, none⟩ 1 1 [.int .i64 ((k : Int) + 1)] rfl rfl (cell_one_new _ _ _) (by intro u hu; simp at hu; subst hu; rfl) (by decide) (by unfold maxLen; omega) (by omega) (by simp; omega) (w6.heap.size + 1) (by simp) ?_))
          intro g9 cap9 w9 own9 grow9 hg9 hlt9
          have B9 := Lib.hid ((bA H6.out (.cells #[.int .i64 ((k : Int) + 1)] 2)).grown grow9 (by simp; omega) (fun j hj => (O6.out.lt j hj).1))
          rw [EV.out] at own9
          have N9 : Hid (w9.ownsRow w5.heap.size 2 1 (.slice (some ⟨g9, 0, none⟩) (cu.length + 1) cap9) (cu ++ [(k : Int) + 1]).length (valsZ (cu ++ [(k : Int) + 1]))) := by
            rw [List.length_append]; exact own9
          have LL := Lib.hid (show (cu ++ [(k : Int) + 1]).length ≤ k + 1 by rw [List.length_append]; simp; omega)
          clear own9 grow9 hg9 hlt9 O6 H6 EV
          go_wp2
          go_roundw
          case rel => exact ⟨k + 1, cu ++ [(k : Int) + 1], by go_num, by omega, LL.out, CS, N9, B9⟩
          case measure => simp [intOf]; omega
        | false =>
          rw [hb] at E
          have CS := Lib.hid (show cu = trK pl qs (k + 1) by rw [HC.out]; exact (trK_no pl qs k (by rw [GD.out]; exact hb)).symm)
          clear hb hp hlt PA HC GD OR
          go_wp2_with fail
          refine E.out.mono ?_
          rintro e w6 ⟨rfl, b6⟩
          have O6 := Lib.hid (own_below O2.out b6)
          have H6 := Lib.hid (bT H3.out b6)
          clear b6 E O2 H3 HB
          go_wp2
          go_roundw
          case rel => exact ⟨k + 1, cu, by go_num, by omega, by omega, CS, O6, H6⟩
          case measure => simp [intOf]; omega
      · have g1' : ¬ (k : Int) < (q : Int) := by omega
        have ek : k = q := by omega
        have P := Lib.hid (own_mono OR.out D5.out.size)
        rw [HC.out, ek, ← HQ.out] at P
        have BB := Lib.hid (bT D5.out HB.out)
        clear OR HC ek
        go_wp2
        go_ret
        exact ⟨_, rfl, P.out, BB.out⟩

end Go.Proofs.Ytdmfljejlhlbnaa
namespace Go.Proofs.Ytdmfljejlhlbnaa
open Go.RowKit
set_option linter.unusedVariables false

theorem own_kind {w : World} {B : Nat} {e : TypeId} {m : Nat} {v : Value} {n : Nat} {xs : List Value} (h : w.ownsRow B e m v n xs) {j : Nat} (hj : v.ownBlock = some j) : ∃ cur, w.heap[j]? = some (.cells cur e) := by
  rcases h.2 with ⟨rfl, _⟩ | ⟨g, cap, cur, rfl, _, hg, _⟩
  · simp [Value.ownBlock] at hj
  · simp [Value.ownBlock] at hj
    subst hj
    exact ⟨cur, hg⟩
theorem own_diff {w : World} {B B' : Nat} {e e' : TypeId} {m m' : Nat} {v v' : Value} {n n' : Nat} {xs xs' : List Value} (h : w.ownsRow B e m v n xs) (h' : w.ownsRow B' e' m' v' n' xs') (he : e ≠ e') : v.ownBlock = none ∨ v.ownBlock ≠ v'.ownBlock := by
  cases hv : v.ownBlock with
  | none => exact .inl rfl
  | some j =>
    refine .inr fun e2 => ?_
    obtain ⟨c1, h1⟩ := own_kind h hv
    obtain ⟨c2, h2⟩ := own_kind h' e2.symm
    rw [h1] at h2
    simp at h2
    exact he h2.2
theorem bA1 {n : Nat} {W w : World} (h : Below n W w) (o : Obj) (hn : n ≤ w.heap.size) : Below n W (w.alloc o) := h.alloc hn o
theorem own_e34 (w : World) : (w.alloc (.cells #[] 34)).ownsRow w.heap.size 34 2 (.slice (some ⟨w.heap.size, 0, none⟩) 0 0) 0 (enCells []) :=
  ⟨rfl, .inr ⟨w.heap.size, 0, #[], rfl, Nat.le_refl _, by show (w.heap.push _)[w.heap.size]? = _; simp, Nat.le_refl _, Nat.zero_le _, rfl, rfl⟩⟩
theorem plF_step (rs : List LSt) (top : Int) (ids : List Int) (k : Nat) (h : k < ids.length) : plF rs top (ids.take (k + 1)) = plF rs top (ids.take k) ++ chF rs top (ids.getD k 0) := by
  unfold plF
  rw [List.take_succ_eq_append_getElem h, List.flatMap_append]
  simp [h]

set_option maxRecDepth 100000 in
set_option maxHeartbeats 4000000 in
/-- spec.l06Vars, of a right table. -/
theorem vars_any (sl : Option Addr) (cap : Nat) (sl2 : Option Addr) (cap2 : Nat) (sl3 : Option Addr) (cap3 : Nat) (rs : List LSt) (ps : List LPr) (top : Int) (ids : List Int) (w : World) (hn : rs.length ≤ 1048576) (hl : ids.length ≤ 400) (hz : Sts w sl rs) (hp : Prs w sl2 ps) (TR0 : TabR rs ps) (hi : Ints w sl3 ids) :
    Calls Try.prog 90 #[TV sl rs.length cap sl2 ps.length cap2, .int .i64 top, .slice sl3 ids.length cap3] w fun e w' => ∃ v, e = .returned v ∧ w'.ownsRow w.heap.size 34 2 v (plF rs top ids).length (enCells (plF rs top ids)) ∧ Below w.heap.size w w' := by
  obtain ⟨i3, hi3, hd0, hd1, hd2⟩ := info_parts info34
  have HT := Lib.hid (TabAt.new w sl rs.length cap sl2 ps.length cap2)
  have E1 : Hid (∀ id W, Below w.heap.size w W → Calls Try.prog 69 #[TV sl rs.length cap sl2 ps.length cap2, .int .i64 id, .int .i64 top] W fun e w' => ∃ s c, e = .returned (.slice s (rs.flatMap (domF id top)).length c) ∧ w'.ownsRow W.heap.size 2 1 (.slice s (rs.flatMap (domF id top)).length c) (rs.flatMap (domF id top)).length (valsZ (rs.flatMap (domF id top))) ∧ Below W.heap.size W w') := fun id W hW => by
    have := sdo_any sl cap sl2 cap2 rs ps id top W hn (hz.below hW) (hp.below hW)
    rw [show domA rs ps id top = rs.flatMap (domF id top) by unfold domA; rw [B_yes TR0]; rfl] at this
    refine this.mono ?_
    rintro e w' ⟨v, rfl, o, b⟩
    obtain ⟨s, c, rfl, i⟩ := own_ints o
    exact ⟨s, c, rfl, o, b⟩
  have DL := Lib.hid (fun id => dom_le rs ps id top TR0)
  have PL := Lib.hid (fun k => plF_le top (ids.take k) TR0)
  have HI := Lib.hid hi
  clear hz hi TR0 hp
  generalize hN : ids.length = n at *
  have HN := Lib.hid hN
  clear hN
  generalize rs.length = rn at *
  generalize ps.length = pn at *
  have B0 := Lib.hid (bA (bA0 w (.cells #[.slice sl rn cap, .slice sl2 pn cap2] 26)) (.cells #[] 34))
  have X0 := Lib.hid (HT.out.below (bA0 (w.alloc (.cells #[.slice sl rn cap, .slice sl2 pn cap2] 26)) (.cells #[] 34)))
  have O0 := Lib.hid (own_e34 (w.alloc (.cells #[.slice sl rn cap, .slice sl2 pn cap2] 26)))
  rw [show (w.alloc (.cells #[.slice sl rn cap, .slice sl2 pn cap2] 26)).heap.size = w.heap.size + 1 by simp] at O0
  go_enter Try.func90, Try.ntmps90
  go_wp2
  generalize (w.alloc (.cells #[.slice sl rn cap, .slice sl2 pn cap2] 26)).alloc (.cells #[] 34) = wA at *
  clear HT
  go_loopw [7, 8] (fun v i wr => ∃ (k : Nat) (cu : List LPl), i = .int .i64 k ∧ k ≤ n ∧ Hid (cu = plF rs top (ids.take k)) ∧ Hid (wr.ownsRow (w.heap.size + 1) 34 2 v cu.length (enCells cu)) ∧ Hid (Below (w.heap.size + 1) wA wr)) (fun _ i _ => n - (intOf i).toNat)
  case atStart => exact ⟨0, [], rfl, Nat.zero_le _, rfl, O0, Below.refl _ _⟩
  case round =>
    obtain ⟨k, cu, rfl, hk, HC, OR, HB⟩ := hrel
    have hk0 : (0 : Int) ≤ (k : Int) := by omega
    have DW := Lib.hid (B0.out.trans (HB.out.mono (Nat.le_succ _)))
    by_cases g1 : k < n
    · have g1' : (k : Int) < (n : Int) := by omega
      have hlt : k < ids.length := by rw [HN.out]; exact g1
      obtain ⟨c, o, rfl, ZI⟩ : ∃ c o, sl3 = some ⟨c, o, none⟩ ∧ IntsAt w c o ids := by
        rcases HI.out with e | h
        · rw [e] at hlt; simp at hlt
        · exact h
      have hcw := ZI.1
      have hc := (DW.out.cell (p := ⟨c, o + k, none⟩) ZI.1).trans (ZI.2 k hlt)
      have IS := Lib.hid (show plF rs top (ids.take (k + 1)) = cu ++ (rs.flatMap (domF (ids.getD k 0) top)).map fun c => ((ids.getD k 0, c) : LPl) by rw [HC.out]; exact plF_step rs top ids k hlt)
      have E := Lib.hid (E1.out (ids.getD k 0))
      have D8 := DL.out (ids.getD k 0)
      have CL := Lib.hid (show cu.length ≤ 96 * k by
        have := PL.out k
        rw [HC.out]
        rw [List.length_take] at this
        omega)
      have IC := Lib.hid (show ∀ W, Below w.heap.size w W → W.cell? ⟨c, o + k, none⟩ = some (.int .i64 (ids.getD k 0)) from fun W hW => (hW.cell (p := ⟨c, o + k, none⟩) ZI.1).trans (ZI.2 k hlt))
      clear hlt ZI HC
      generalize ids.getD k 0 = x at *
      generalize hzz : rs.flatMap (domF x top) = zs at *
      clear hzz
      have XT : TabAt wr w.heap.size sl rn cap sl2 pn cap2 := (HB.out.block w.heap.size (Nat.lt_succ_self _)).trans X0.out
      obtain ⟨t0, t1⟩ := XT.cells
      have tl := XT.lt
      have hsw : w.heap.size + 1 ≤ wr.heap.size := tl
      have KB : Hid (∀ W, Below wr.heap.size wr W → w.heap.size < W.heap.size ∧ c < W.heap.size ∧ W.cell? ⟨w.heap.size, 0, none⟩ = some (.slice sl rn cap) ∧ W.cell? ⟨w.heap.size, 1, none⟩ = some (.slice sl2 pn cap2) ∧ W.cell? ⟨c, o + k, none⟩ = some (.int .i64 x)) := fun W hW => ⟨Nat.lt_of_lt_of_le tl hW.size, Nat.lt_of_lt_of_le (show c < wr.heap.size by omega) hW.size, (hW.cell tl).trans t0, (hW.cell tl).trans t1, (hW.cell (show c < wr.heap.size by omega)).trans hc⟩
      clear XT t0 t1 tl hc
      go_wp2_with fail
      refine wp_region_held_drew (S := fun W => w.heap.size < W.heap.size ∧ c < W.heap.size ∧ W.cell? ⟨w.heap.size, 0, none⟩ = some (.slice sl rn cap) ∧ W.cell? ⟨w.heap.size, 1, none⟩ = some (.slice sl2 pn cap2) ∧ W.cell? ⟨c, o + k, none⟩ = some (.int .i64 x)) (by kernel_rfl) ?_ (fun hHeld => ?_)
      · exact KB.out _ (Below.refl _ _).drew
      refine wpAnyH_take (i := 0) (oi := _) (v := ?_) rfl (by kernel_rfl) (by kernel_rfl) (by kernel_rfl) (fun _ _ _ h => h) (Or.inl ⟨by rfl, ?_⟩) (by assumption) ?_
      rotate_left
      · first | (intro w hSw; (try dsimp only at hSw); go_simp; done) | (intro w hSw; (try dsimp only at hSw); go_simp; with_reducible rfl)
      try simp only [Act.put, List.setIfInBounds_toArray, List.set_cons_zero, List.set_cons_succ, List.getElem_toArray, List.getElem_cons_zero]
      refine wpAnyH_take (i := 1) (oi := _) (v := ?_) rfl (by kernel_rfl) (by kernel_rfl) (by kernel_rfl) (fun _ _ _ h => h) (Or.inl ⟨by rfl, ?_⟩) (by assumption) ?_
      rotate_left
      · first | (intro w hSw; (try dsimp only at hSw); go_simp; done) | (intro w hSw; (try dsimp only at hSw); go_simp; with_reducible rfl)
      try simp only [Act.put, List.setIfInBounds_toArray, List.set_cons_zero, List.set_cons_succ, List.getElem_toArray, List.getElem_cons_succ, List.getElem_cons_zero]
      refine wpAnyH_take (i := 2) (oi := _) (v := ?_) rfl (by kernel_rfl) (by kernel_rfl) (by kernel_rfl) (fun _ _ _ h => h) (Or.inl ⟨by rfl, ?_⟩) (by assumption) ?_
      rotate_left
      · first | (intro w hSw; (try dsimp only at hSw); go_simp; done) | (intro w hSw; (try dsimp only at hSw); go_simp; with_reducible rfl)
      try simp only [Act.put, List.setIfInBounds_toArray, List.set_cons_zero, List.set_cons_succ, List.getElem_toArray, List.getElem_cons_succ, List.getElem_cons_zero]
      refine wpAnyH_take (i := 3) (oi := _) (v := ?_) rfl (by kernel_rfl) (by kernel_rfl) (by kernel_rfl) (fun _ _ _ h => h) (Or.inl ⟨by rfl, ?_⟩) (by assumption) ?_
      rotate_left
      · first | (intro w hSw; (try dsimp only at hSw); go_simp; done) | (intro w hSw; (try dsimp only at hSw); go_simp; with_reducible rfl)
      try simp only [Act.put, List.setIfInBounds_toArray, List.set_cons_zero, List.set_cons_succ, List.getElem_toArray, List.getElem_cons_succ, List.getElem_cons_zero]
      refine wpAnyH_take (i := 4) (oi := _) (v := ?_) rfl (by kernel_rfl) (by kernel_rfl) (by kernel_rfl) (fun _ _ _ h => h) (Or.inl ⟨by rfl, ?_⟩) (by assumption) ?_
      rotate_left
      · first | (intro w hSw; (try dsimp only at hSw); go_simp; done) | (intro w hSw; (try dsimp only at hSw); go_simp; with_reducible rfl)
      try simp only [Act.put, List.setIfInBounds_toArray, List.set_cons_zero, List.set_cons_succ, List.getElem_toArray, List.getElem_cons_succ, List.getElem_cons_zero]
      refine wpAnyH_take (i := 5) (oi := _) (v := ?_) rfl (by kernel_rfl) (by kernel_rfl) (by kernel_rfl) (fun _ _ _ h => h) (Or.inl ⟨by rfl, ?_⟩) (by assumption) ?_
      rotate_left
      · first | (intro w hSw; (try dsimp only at hSw); go_simp; done) | (intro w hSw; (try dsimp only at hSw); go_simp; with_reducible rfl)
      try simp only [Act.put, List.setIfInBounds_toArray, List.set_cons_zero, List.set_cons_succ, List.getElem_toArray, List.getElem_cons_succ, List.getElem_cons_zero]
      refine wpAnyH_ready (rs := [6]) (by kernel_rfl) (by simp) ?_
      refine AllReadyH.cons rfl (fun K hK => ?_) AllReadyH.nil
      go_simp
      go_wp2_with (go_at_call 69; refine (E.out _ DW.out.drew).mono ?_; rintro e w3 ⟨s3, c3, rfl, o3, b3⟩)
      have F3 : Hid (Below wr.heap.size wr w3) := bT ((Below.refl wr.heap.size wr).drew) b3
      have Z3 := Lib.hid o3
      clear b3 o3
      refine hK.out _ _ ?_ (fun hHeld => ?_)
      · exact KB.out _ F3.out
      clear hK K
      refine wpAnyH_take (i := 7) (oi := _) (v := ?_) rfl (by kernel_rfl) (by kernel_rfl) (by kernel_rfl) (fun _ _ _ h => h) (Or.inl ⟨by rfl, ?_⟩) (by assumption) ?_
      rotate_left
      · first | (intro w hSw; (try dsimp only at hSw); go_simp; done) | (intro w hSw; (try dsimp only at hSw); go_simp; with_reducible rfl)
      try simp only [Act.put, List.setIfInBounds_toArray, List.set_cons_zero, List.set_cons_succ, List.getElem_toArray, List.getElem_cons_succ, List.getElem_cons_zero]
      refine wpAnyH_done (by kernel_rfl) ?_ _
      have O3 := Lib.hid (own_below OR.out F3.out)
      have B3 := Lib.hid (HB.out.trans (F3.out.mono hsw))
      have hs3 : w.heap.size + 1 ≤ w3.heap.size := by have := F3.out.size; omega
      clear KB OR HB F3 DW E
      generalize hq : zs.length = q at *
      have HQ := Lib.hid hq
      clear hq
      obtain ⟨wb, hwb⟩ : ∃ wb, wb = wr.heap.size := ⟨_, rfl⟩
      rw [show wr.drew.heap.size = wb from hwb.symm] at Z3
      clear hwb
      go_wp2_with fail
      go_loopw [7, 10] (fun v j wq => ∃ (m : Nat) (cv : List LPl), j = .int .i64 m ∧ m ≤ q ∧ cv.length ≤ 96 * k + m ∧ Hid (cv = cu ++ (zs.take m).map fun c => ((x, c) : LPl)) ∧ Hid (wq.ownsRow (w.heap.size + 1) 34 2 v cv.length (enCells cv)) ∧ Hid (wq.ownsRow wb 2 1 (.slice s3 q c3) q (valsZ zs)) ∧ Hid (Below (w.heap.size + 1) wA wq)) (fun _ j _ => q - (intOf j).toNat)
      case atStart => exact ⟨0, cu, rfl, Nat.zero_le _, CL.out, (by show cu = cu ++ _; simp), O3, Z3, B3⟩
      case round =>
        obtain ⟨m, cv, rfl, hm, hcv, HC, OR, OZ, HB⟩ := hrel
        have hm0 : (0 : Int) ≤ (m : Int) := by omega
        by_cases g2 : m < q
        · have g2' : (m : Int) < (q : Int) := by omega
          have hlt : m < zs.length := by rw [HQ.out]; exact g2
          have QP := Lib.hid (show 0 < q by omega)
          obtain ⟨e, ce, he, -, hel, -, -, hec⟩ := own_cells OZ.out QP.out
          obtain ⟨rfl, rfl⟩ : s3 = some ⟨e, 0, none⟩ ∧ c3 = ce := by cases he; exact ⟨rfl, rfl⟩
          have hzc : wr.cell? ⟨e, m, none⟩ = some (.int .i64 (zs.getD m 0)) := by rw [hec m g2]; simp [valsZ, hlt]
          have CS := Lib.hid (show cv ++ [(x, zs.getD m 0)] = cu ++ (zs.take (m + 1)).map fun c => ((x, c) : LPl) by rw [chF_step rs top x zs m hlt, ← List.append_assoc, ← HC.out])
          have KZ : Hid (∀ W, Below (w.heap.size + 1) wA W → W.ownsRow wb 2 1 (.slice (some ⟨e, 0, none⟩) q c3) q (valsZ zs) → c < W.heap.size ∧ e < W.heap.size ∧ W.cell? ⟨c, o + k, none⟩ = some (.int .i64 x) ∧ W.cell? ⟨e, m, none⟩ = some (.int .i64 (zs.getD m 0))) := fun W hW hZ => by
            obtain ⟨e', ce', he', -, hel', -, -, hec'⟩ := own_cells hZ QP.out
            cases he'
            have hsz := hW.size
            have hA := B0.out.size
            exact ⟨by omega, hel', IC.out W (B0.out.trans (hW.mono (Nat.le_succ _))), by rw [hec' m g2]; simp [valsZ, hlt]⟩
          have OD : Hid ((wr.drew.alloc (.cells #[.int .i64 x, .int .i64 (zs.getD m 0)] 34)).ownsRow (w.heap.size + 1) 34 2 _ cv.length (enCells cv)) := (show wr.drew.ownsRow _ _ _ _ _ _ from OR.out).alloc _
          have ZD : Hid ((wr.drew.alloc (.cells #[.int .i64 x, .int .i64 (zs.getD m 0)] 34)).ownsRow wb 2 1 (.slice (some ⟨e, 0, none⟩) q c3) q (valsZ zs)) := (show wr.drew.ownsRow _ _ _ _ _ _ from OZ.out).alloc _
          have hsw : w.heap.size + 1 ≤ wr.heap.size := by have := HB.out.size; have := X0.out.lt; omega
          have K0 := Lib.hid (KZ.out wr.drew HB.out.drew (show wr.drew.ownsRow _ _ _ _ _ _ from OZ.out))
          have K10 := Lib.hid (KZ.out _ (bA1 HB.out.drew (.cells #[.int .i64 x, .int .i64 (zs.getD m 0)] 34) hsw) ZD.out)
          clear hlt hec he
          generalize zs.getD m 0 = z at *
          obtain ⟨vsl, vcap, rfl⟩ := own_v OR.out
          go_wp2_with fail
          refine wp_region_held_drew (S := fun W => c < W.heap.size ∧ e < W.heap.size ∧ W.cell? ⟨c, o + k, none⟩ = some (.int .i64 x) ∧ W.cell? ⟨e, m, none⟩ = some (.int .i64 z)) (by kernel_rfl) ?_ (fun hHeld => ?_)
          · exact K0.out
          refine wpAnyH_take (i := 0) (oi := _) (v := ?_) rfl (by kernel_rfl) (by kernel_rfl) (by kernel_rfl) (fun _ _ _ h => h) (Or.inl ⟨by rfl, ?_⟩) (by assumption) ?_
          rotate_left
          · first | (intro w hSw; (try dsimp only at hSw); go_simp; done) | (intro w hSw; (try dsimp only at hSw); go_simp; with_reducible rfl)
          try simp only [Act.put, List.setIfInBounds_toArray, List.set_cons_zero, List.set_cons_succ, List.getElem_toArray, List.getElem_cons_zero]
          refine wpAnyH_take (i := 1) (oi := _) (v := ?_) rfl (by kernel_rfl) (by kernel_rfl) (by kernel_rfl) (fun _ _ _ h => h) (Or.inl ⟨by rfl, ?_⟩) (by assumption) ?_
          rotate_left
          · first | (intro w hSw; (try dsimp only at hSw); go_simp; done) | (intro w hSw; (try dsimp only at hSw); go_simp; with_reducible rfl)
          try simp only [Act.put, List.setIfInBounds_toArray, List.set_cons_zero, List.set_cons_succ, List.getElem_toArray, List.getElem_cons_succ, List.getElem_cons_zero]
          refine wpAnyH_take (i := 2) (oi := _) (v := ?_) rfl (by kernel_rfl) (by kernel_rfl) (by kernel_rfl) (fun _ _ _ h => h) (Or.inl ⟨by rfl, ?_⟩) (by assumption) ?_
          rotate_left
          · first | (intro w hSw; (try dsimp only at hSw); go_simp; done) | (intro w hSw; (try dsimp only at hSw); go_simp; with_reducible rfl)
          try simp only [Act.put, List.setIfInBounds_toArray, List.set_cons_zero, List.set_cons_succ, List.getElem_toArray, List.getElem_cons_succ, List.getElem_cons_zero]
          refine wpAnyH_take (i := 3) (oi := _) (v := ?_) rfl (by kernel_rfl) (by kernel_rfl) (by kernel_rfl) (fun _ _ _ h => h) (Or.inl ⟨by rfl, ?_⟩) (by assumption) ?_
          rotate_left
          · first | (intro w hSw; (try dsimp only at hSw); go_simp; done) | (intro w hSw; (try dsimp only at hSw); go_simp; with_reducible rfl)
          try simp only [Act.put, List.setIfInBounds_toArray, List.set_cons_zero, List.set_cons_succ, List.getElem_toArray, List.getElem_cons_succ, List.getElem_cons_zero]
          refine wpAnyH_take (i := 4) (oi := _) (v := ?_) rfl (by kernel_rfl) (by kernel_rfl) (by kernel_rfl) (fun _ _ _ h => h) (Or.inl ⟨by rfl, ?_⟩) (by assumption) ?_
          rotate_left
          · first | (intro w hSw; (try dsimp only at hSw); go_simp; done) | (intro w hSw; (try dsimp only at hSw); go_simp; with_reducible rfl)
          try simp only [Act.put, List.setIfInBounds_toArray, List.set_cons_zero, List.set_cons_succ, List.getElem_toArray, List.getElem_cons_succ, List.getElem_cons_zero]
          refine wpAnyH_take (i := 5) (oi := _) (v := ?_) rfl (by kernel_rfl) (by kernel_rfl) (by kernel_rfl) (fun _ _ _ h => h) (Or.inl ⟨by rfl, ?_⟩) (by assumption) ?_
          rotate_left
          · first | (intro w hSw; (try dsimp only at hSw); go_simp; done) | (intro w hSw; (try dsimp only at hSw); go_simp; with_reducible rfl)
          try simp only [Act.put, List.setIfInBounds_toArray, List.set_cons_zero, List.set_cons_succ, List.getElem_toArray, List.getElem_cons_succ, List.getElem_cons_zero]
          refine wpAnyH_take (i := 6) (oi := _) (v := ?_) rfl (by kernel_rfl) (by kernel_rfl) (by kernel_rfl) (fun _ _ _ h => h) (Or.inl ⟨by rfl, ?_⟩) (by assumption) ?_
          rotate_left
          · first | (intro w hSw; (try dsimp only at hSw); go_simp; done) | (intro w hSw; (try dsimp only at hSw); go_simp; with_reducible rfl)
          try simp only [Act.put, List.setIfInBounds_toArray, List.set_cons_zero, List.set_cons_succ, List.getElem_toArray, List.getElem_cons_succ, List.getElem_cons_zero]
          refine wpAnyH_take (i := 7) (oi := _) (v := ?_) rfl (by kernel_rfl) (by kernel_rfl) (by kernel_rfl) (fun _ _ _ h => h) (Or.inl ⟨by rfl, ?_⟩) (by assumption) ?_
          rotate_left
          · first | (intro w hSw; (try dsimp only at hSw); go_simp; done) | (intro w hSw; (try dsimp only at hSw); go_simp; with_reducible rfl)
          try simp only [Act.put, List.setIfInBounds_toArray, List.set_cons_zero, List.set_cons_succ, List.getElem_toArray, List.getElem_cons_succ, List.getElem_cons_zero]
          refine wpAnyH_take (i := 8) (oi := _) (v := ?_) rfl (by kernel_rfl) (by kernel_rfl) (by kernel_rfl) (fun _ _ _ h => h) (Or.inl ⟨by rfl, ?_⟩) (by assumption) ?_
          rotate_left
          · first | (intro w hSw; (try dsimp only at hSw); go_simp; done) | (intro w hSw; (try dsimp only at hSw); go_simp; with_reducible rfl)
          try simp only [Act.put, List.setIfInBounds_toArray, List.set_cons_zero, List.set_cons_succ, List.getElem_toArray, List.getElem_cons_succ, List.getElem_cons_zero]
          refine wpAnyH_take (i := 9) (oi := _) (v := ?_) rfl (by kernel_rfl) (by kernel_rfl) (by kernel_rfl) (fun _ _ _ h => h) (Or.inl ⟨by rfl, ?_⟩) (by assumption) ?_
          rotate_left
          · first | (intro w hSw; (try dsimp only at hSw); go_simp; done) | (intro w hSw; (try dsimp only at hSw); go_simp; with_reducible rfl)
          try simp only [Act.put, List.setIfInBounds_toArray, List.set_cons_zero, List.set_cons_succ, List.getElem_toArray, List.getElem_cons_succ, List.getElem_cons_zero]
          refine wpAnyH_ready (rs := [10]) (by kernel_rfl) (by simp) ?_
          refine AllReadyH.cons rfl (fun K hK => ?_) AllReadyH.nil
          go_simp
          refine hK.out _ _ ?_ (fun hHeld => ?_)
          · exact K10.out
          clear hK K
          refine wpAnyH_ready (rs := [11]) (by kernel_rfl) (by simp) ?_
          refine AllReadyH.cons rfl (fun K hK => ?_) AllReadyH.nil
          refine step_append_lies _ rfl (.tmp 31) (.tmp 41) 27 rfl (w.heap.size + 1) 34 i3 (.agg #[.int .i64 0, .int .i64 0]) 2 16 Try.underlying27 hi3 hd0 hd1 hd2 rfl (by decide) (.slice vsl cv.length vcap) cv.length (enCells cv) (by simp [Act.eval]) OD.out ⟨wr.heap.size, 0, none⟩ 1 1 [.int .i64 x, .int .i64 z] (by simp [Act.eval]) rfl (cell_two_new wr.drew _ _ _) (by intro u hu; simp at hu; rcases hu with rfl | rfl <;> rfl) (by decide) (by unfold maxLen; omega) (by omega) (by simp; omega) (wr.heap.size + 1) (by simp) ?_
          intro g9 cap9 w9 own9 grow9 hg9 hlt9
          have B9 := Lib.hid ((bA1 HB.out.drew (.cells #[.int .i64 x, .int .i64 z] 34) (by simpa using hsw)).grown grow9 (by simp; omega) (fun j hj => (OD.out.lt j hj).1))
          have Z9 := Lib.hid (ZD.out.kept grow9 (own_diff ZD.out OD.out (by decide)))
          have K11 := Lib.hid (show c < w9.heap.size ∧ e < w9.heap.size ∧ w9.cell? ⟨c, o + k, none⟩ = some (.int .i64 x) ∧ w9.cell? ⟨e, m, none⟩ = some (.int .i64 z) from KZ.out w9 B9.out Z9.out)
          rw [← enCells_add cv (x, z)] at own9
          have N9 : Hid (w9.ownsRow (w.heap.size + 1) 34 2 (.slice (some ⟨g9, 0, none⟩) (cv.length + 1) cap9) (cv ++ [(x, z)]).length (enCells (cv ++ [(x, z)]))) := by
            rw [List.length_append]; exact own9
          clear own9 grow9 hg9 hlt9
          refine hK.out _ _ ?_ (fun hHeld => ?_)
          · exact K11.out
          clear hK K
          refine wpAnyH_take (i := 12) (oi := _) (v := ?_) rfl (by kernel_rfl) (by kernel_rfl) (by kernel_rfl) (fun _ _ _ h => h) (Or.inl ⟨by rfl, ?_⟩) (by assumption) ?_
          rotate_left
          · first | (intro w hSw; (try dsimp only at hSw); go_simp; done) | (intro w hSw; (try dsimp only at hSw); go_simp; with_reducible rfl)
          try simp only [Act.put, List.setIfInBounds_toArray, List.set_cons_zero, List.set_cons_succ, List.getElem_toArray, List.getElem_cons_succ, List.getElem_cons_zero]
          refine wpAnyH_done (by kernel_rfl) ?_ _
          have LL := Lib.hid (show (cv ++ [(x, z)]).length ≤ 96 * k + (m + 1) by rw [List.length_append]; simp; omega)
          clear K11 K10 K0 KZ OD ZD OR OZ HB HC
          go_wp2_with fail
          go_roundw
          case rel => exact ⟨m + 1, cv ++ [(x, z)], by go_num, by omega, LL.out, CS, N9, Z9, B9⟩
          case measure => simp [intOf]; omega
        · have g2' : ¬ (m : Int) < (q : Int) := by omega
          have CE := Lib.hid (show cv = plF rs top (ids.take (k + 1)) by rw [HC.out, List.take_of_length_le (by rw [HQ.out]; omega), IS.out])
          clear HC OZ
          go_wp2
          go_roundw
          case rel => exact ⟨k + 1, cv, by go_num, by omega, CE, OR, HB⟩
          case measure => simp [intOf]; omega
    · have g1' : ¬ (k : Int) < (n : Int) := by omega
      have P := Lib.hid (own_mono OR.out (Nat.le_succ w.heap.size))
      rw [HC.out, List.take_of_length_le (show ids.length ≤ k by rw [HN.out]; omega)] at P
      clear OR HC
      go_wp2
      go_ret
      exact ⟨_, rfl, P.out, DW.out⟩

end Go.Proofs.Ytdmfljejlhlbnaa
