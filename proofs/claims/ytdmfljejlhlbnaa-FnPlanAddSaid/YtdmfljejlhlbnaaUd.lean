/-
  THE TRUES OF A PLAN: impl.TruesOf.
-/
import Derived.Test.YtdmfljejlhlbnaaUc
import Derived.Test.YtdmfljejlhlbnaaPl
namespace Go.Proofs.Ytdmfljejlhlbnaa
open Go.RowKit
set_option linter.unusedVariables false

/-- The variables of the first k places that are in the plan. -/
noncomputable def trK (pl places : List LPl) (k : Nat) : List Int := ((List.range k).filter fun i => B (places.getD i (0, 0) ∈ pl)).map fun (i : Nat) => (i : Int) + 1
theorem trK_zero (pl places : List LPl) : trK pl places 0 = [] := rfl
theorem trK_yes (pl places : List LPl) (k : Nat) (h : B (places.getD k (0, 0) ∈ pl) = true) : trK pl places (k + 1) = trK pl places k ++ [(k : Int) + 1] := by
  have e : List.filter (fun i => B (places.getD i (0, 0) ∈ pl)) [k] = [k] := by rw [List.filter_cons_of_pos (p := fun i => B (places.getD i (0, 0) ∈ pl)) h]; rfl
  unfold trK
  rw [List.range_succ, List.filter_append, List.map_append, e]
  rfl
theorem trK_no (pl places : List LPl) (k : Nat) (h : B (places.getD k (0, 0) ∈ pl) = false) : trK pl places (k + 1) = trK pl places k := by
  have e : List.filter (fun i => B (places.getD i (0, 0) ∈ pl)) [k] = [] := by rw [List.filter_cons_of_neg (p := fun i => B (places.getD i (0, 0) ∈ pl)) (by rw [h]; exact Bool.false_ne_true)]; rfl
  unfold trK
  rw [List.range_succ, List.filter_append, List.map_append, e]
  exact List.append_nil _
theorem trK_len (pl places : List LPl) (k : Nat) : (trK pl places k).length ≤ k := by
  unfold trK
  rw [List.length_map]
  exact Nat.le_trans (List.length_filter_le _ _) (by simp)
/-- What TruesOf answers. -/
noncomputable def trA (rs : List LSt) (ps : List LPr) (top : Int) (pl : List LPl) : List Int := if planB rs ps top pl = true then trK pl (plF rs top (pidsL pl)) (plF rs top (pidsL pl)).length else []
theorem planB_ids {rs : List LSt} {ps : List LPr} {top : Int} {pl : List LPl} (h : planB rs ps top pl = true) : pl.length ≤ 400 ∧ IdsR rs ps (pidsL pl) := by
  unfold planB at h
  rw [Bool.and_eq_true] at h
  have h1 : pl.length ≤ 400 := of_decide_eq_true h.1
  refine ⟨h1, ?_⟩
  have h2 := h.2
  unfold faultA at h2
  rw [if_pos h1] at h2
  cases hb : B (IdsR rs ps (pidsL pl)) with
  | true => exact B_true hb
  | false => rw [hb] at h2; simp at h2
theorem plF_le {rs : List LSt} {ps : List LPr} (top : Int) (ids : List Int) (h : TabR rs ps) : (plF rs top ids).length ≤ 96 * ids.length := by
  induction ids with
  | nil => simp [plF]
  | cons a t ih =>
    have e : plF rs top (a :: t) = chF rs top a ++ plF rs top t := by simp [plF]
    have := dom_le rs ps a top h
    rw [e, List.length_append, List.length_cons]
    unfold chF
    rw [List.length_map]
    omega
theorem pidsA_eq {pl : List LPl} (h : pl.length ≤ 400) : pidsA pl = pidsL pl := by unfold pidsA; rw [if_pos h]

set_option maxRecDepth 100000 in
set_option maxHeartbeats 4000000 in
/-- impl.TruesOf. -/
theorem ito_any (sl : Option Addr) (cap : Nat) (sl2 : Option Addr) (cap2 : Nat) (sl3 : Option Addr) (cap3 : Nat) (rs : List LSt) (ps : List LPr) (pl : List LPl) (top : Int) (w : World) (hn : rs.length ≤ 1048576) (hl : pl.length ≤ 1048576) (hz : Sts w sl rs) (hp : Prs w sl2 ps) (hw : ∀ p ∈ ps, WfP p) (hi : Pls w sl3 pl) (hc3 : pl.length ≤ cap3) :
    Calls Try.prog 23 #[TV sl rs.length cap sl2 ps.length cap2, .int .i64 top, .slice sl3 pl.length cap3] w fun e w' => ∃ v, e = .returned v ∧ w'.ownsRow w.heap.size 2 1 v (trA rs ps top pl).length (valsZ (trA rs ps top pl)) ∧ Below w.heap.size w w' := by
  obtain ⟨i0, hi0, hz0, hz1, hz2⟩ := info_parts info2'
  have HT := Lib.hid (TabAt.new w sl rs.length cap sl2 ps.length cap2)
  have B0 := Lib.hid (bA0 w (.cells #[.slice sl rs.length cap, .slice sl2 ps.length cap2] 26))
  have E1 : Hid (∀ W, Below w.heap.size w W → Calls Try.prog 19 #[TV sl rs.length cap sl2 ps.length cap2, .int .i64 top, .slice sl3 pl.length cap3] W fun e w' => e = .returned (.bool (planB rs ps top pl)) ∧ Below W.heap.size W w') := fun W hW => ipr_any sl cap sl2 cap2 sl3 cap3 rs ps pl top W hn hl (hz.below hW) (hp.below hW) hw (hi.below hW) hc3
  cases hb : planB rs ps top pl with
  | false =>
    have TA : trA rs ps top pl = [] := by unfold trA; rw [hb]; rfl
    rw [TA]
    rw [hb] at E1
    clear hb hz hp hw hi TA
    generalize rs.length = rn at *
    generalize ps.length = pn at *
    generalize pl.length = m at *
    go_enter Try.func23, Try.ntmps23
    go_wp2_with fail
    refine (E1.out _ B0.out).mono ?_
    rintro e w1 ⟨rfl, b1⟩
    have D1 := Lib.hid (bT B0.out b1)
    clear b1 E1
    go_wp2
    go_ret
    exact ⟨_, rfl, ⟨rfl, .inl ⟨rfl, rfl⟩⟩, D1.out⟩
  | true =>
    rw [hb] at E1
    obtain ⟨h400, IR⟩ := planB_ids hb
    have TA : trA rs ps top pl = trK pl (plF rs top (pidsL pl)) (plF rs top (pidsL pl)).length := by unfold trA; rw [hb]; rfl
    rw [TA]
    have hpl : (plF rs top (pidsL pl)).length ≤ 38400 := by
      have := plF_le top (pidsL pl) IR.2.1
      rw [pidsL_len] at this
      omega
    have E2 : Hid (∀ W, Below w.heap.size w W → Calls Try.prog 72 #[.slice sl3 pl.length cap3] W fun e w' => ∃ s c, e = .returned (.slice s (pidsL pl).length c) ∧ Ints w' s (pidsL pl) ∧ Below W.heap.size W w') := fun W hW => by
      have := ipi_any sl3 cap3 pl W (by unfold maxLen; omega) (hi.below hW)
      rw [pidsA_eq h400] at this
      refine this.mono ?_
      rintro e w' ⟨v, rfl, o, b⟩
      obtain ⟨s, c, rfl, i⟩ := own_ints o
      exact ⟨s, c, rfl, i, b⟩
    have E3 : Hid (∀ s c W, Below w.heap.size w W → Ints W s (pidsL pl) → Calls Try.prog 82 #[TV sl rs.length cap sl2 ps.length cap2, .int .i64 top, .slice s (pidsL pl).length c] W fun e w' => ∃ b rows, e = .returned (.slice (some ⟨b, 0, none⟩) (pidsL pl).length (pidsL pl).length) ∧ rows.map (fun r => r.2) = (pidsL pl).map (chF rs top) ∧ Rws w' (some ⟨b, 0, none⟩) rows ∧ Below W.heap.size W w') := fun s c W hW i => ch_any sl cap sl2 cap2 s c rs ps top (pidsL pl) W (by rw [pidsL_len]; exact h400) (hz.below hW) IR.2.1 i
    have E4 : Hid (∀ b rows W, rows.map (fun r => r.2) = (pidsL pl).map (chF rs top) → Rws W (some ⟨b, 0, none⟩) rows → Calls Try.prog 81 #[.slice (some ⟨b, 0, none⟩) (pidsL pl).length (pidsL pl).length] W fun e w' => ∃ v, e = .returned v ∧ w'.ownsRow W.heap.size 34 2 v (plF rs top (pidsL pl)).length (enCells (plF rs top (pidsL pl))) ∧ Below W.heap.size W w') := fun b rows W er r => by
      have hl' : rows.length = (pidsL pl).length := by have := congrArg List.length er; simpa using this
      have := cat_any (some ⟨b, 0, none⟩) (pidsL pl).length rows W (by rw [hl', pidsL_len]; omega) (by rw [flatR_map er]; omega) r
      rwa [hl', flatR_map er] at this
    have E5 : Hid (∀ x y W, Below w.heap.size w W → Calls Try.prog 83 #[.slice sl3 pl.length cap3, .agg #[.int .i64 x, .int .i64 y]] W fun e w' => e = .returned (.bool (B ((x, y) ∈ pl))) ∧ Below W.heap.size W w') := fun x y W hW => phas_any sl3 cap3 pl x y W hl (hi.below hW)
    clear hb hz hp hw hi TA IR
    generalize hPQ : plF rs top (pidsL pl) = qs at *
    clear hPQ
    have LQ := Lib.hid (show (pidsL pl).length ≤ 400 by rw [pidsL_len]; exact h400)
    generalize (pidsL pl).length = idn at *
    generalize rs.length = rn at *
    generalize ps.length = pn at *
    generalize pl.length = m at *
    have hidn := LQ.out
    go_enter Try.func23, Try.ntmps23
    go_wp2_with fail
    refine (E1.out _ B0.out).mono ?_
    rintro e w1 ⟨rfl, b1⟩
    have D1 := Lib.hid (bT B0.out b1)
    have X1 := Lib.hid (HT.out.below b1)
    clear b1 E1 HT
    have KB : Hid (∀ W, Below w1.heap.size w1 W → w.heap.size < W.heap.size ∧ W.cell? ⟨w.heap.size, 0, none⟩ = some (.slice sl rn cap) ∧ W.cell? ⟨w.heap.size, 1, none⟩ = some (.slice sl2 pn cap2)) := fun W hW => by
      obtain ⟨k0, k1⟩ := (X1.out.below hW).cells
      exact ⟨(X1.out.below hW).lt, k0, k1⟩
    go_wp2_with fail
    refine wp_region_held_drew (S := fun W => w.heap.size < W.heap.size ∧ W.cell? ⟨w.heap.size, 0, none⟩ = some (.slice sl rn cap) ∧ W.cell? ⟨w.heap.size, 1, none⟩ = some (.slice sl2 pn cap2)) (by kernel_rfl) ?_ (fun hHeld => ?_)
    · exact KB.out _ (Below.refl _ _).drew
    refine wpAnyH_take (i := 0) (oi := _) (v := ?_) rfl (by kernel_rfl) (by kernel_rfl) (by kernel_rfl) (fun _ _ _ h => h) (Or.inl ⟨by rfl, ?_⟩) (by assumption) ?_
    rotate_left
    · first | (intro w hSw; (try dsimp only at hSw); go_simp; done) | (intro w hSw; (try dsimp only at hSw); go_simp; with_reducible rfl)
    try simp only [Act.put, List.setIfInBounds_toArray, List.set_cons_zero, List.set_cons_succ, List.getElem_toArray, List.getElem_cons_zero]
    refine wpAnyH_take (i := 1) (oi := _) (v := ?_) rfl (by kernel_rfl) (by kernel_rfl) (by kernel_rfl) (fun _ _ _ h => h) (Or.inl ⟨by rfl, ?_⟩) (by assumption) ?_
    rotate_left
    · first | (intro w hSw; (try dsimp only at hSw); go_simp; done) | (intro w hSw; (try dsimp only at hSw); go_simp; with_reducible rfl)
    try simp only [Act.put, List.setIfInBounds_toArray, List.set_cons_zero, List.set_cons_succ, List.getElem_toArray, List.getElem_cons_succ, List.getElem_cons_zero]
    refine wpAnyH_take (i := 2) (oi := _) (v := ?_) rfl (by kernel_rfl) (by kernel_rfl) (by kernel_rfl) (fun _ _ _ h => h) (Or.inl ⟨by rfl, ?_⟩) (by assumption) ?_
    rotate_left
    · first | (intro w hSw; (try dsimp only at hSw); go_simp; done) | (intro w hSw; (try dsimp only at hSw); go_simp; with_reducible rfl)
    try simp only [Act.put, List.setIfInBounds_toArray, List.set_cons_zero, List.set_cons_succ, List.getElem_toArray, List.getElem_cons_succ, List.getElem_cons_zero]
    refine wpAnyH_take (i := 7) (oi := _) (v := ?_) rfl (by kernel_rfl) (by kernel_rfl) (by kernel_rfl) (fun _ _ _ h => h) (Or.inl ⟨by rfl, ?_⟩) (by assumption) ?_
    rotate_left
    · first | (intro w hSw; (try dsimp only at hSw); go_simp; done) | (intro w hSw; (try dsimp only at hSw); go_simp; with_reducible rfl)
    try simp only [Act.put, List.setIfInBounds_toArray, List.set_cons_zero, List.set_cons_succ, List.getElem_toArray, List.getElem_cons_succ, List.getElem_cons_zero]
    refine wpAnyH_ready (rs := [3]) (by kernel_rfl) (by simp) ?_
    refine AllReadyH.cons rfl (fun K hK => ?_) AllReadyH.nil
    go_simp
    go_wp2_with (go_at_call 72; refine (E2.out _ D1.out.drew).mono ?_; rintro e w3 ⟨s3, c3, rfl, z3, b3⟩)
    have F3 : Hid (Below w1.heap.size w1 w3) := bT ((Below.refl w1.heap.size w1).drew) b3
    have D3 := Lib.hid (bT D1.out F3.out)
    have Z3 := Lib.hid z3
    clear b3 z3
    refine hK.out _ _ ?_ (fun hHeld => ?_)
    · exact KB.out _ F3.out
    clear hK K
    refine wpAnyH_ready (rs := [4]) (by kernel_rfl) (by simp) ?_
    refine AllReadyH.cons rfl (fun K hK => ?_) AllReadyH.nil
    go_simp
    go_wp2_with (go_at_call 82; refine (E3.out s3 c3 _ D3.out Z3.out).mono ?_; rintro e w4 ⟨b4, rows, rfl, er, r4, bl4⟩)
    have F4 : Hid (Below w1.heap.size w1 w4) := bT F3.out bl4
    have D4 := Lib.hid (bT D3.out bl4)
    have R4 := Lib.hid r4
    have ER := Lib.hid er
    clear bl4 r4 er
    refine hK.out _ _ ?_ (fun hHeld => ?_)
    · exact KB.out _ F4.out
    clear hK K
    refine wpAnyH_ready (rs := [5]) (by kernel_rfl) (by simp) ?_
    refine AllReadyH.cons rfl (fun K hK => ?_) AllReadyH.nil
    go_simp
    go_wp2_with (go_at_call 81; refine (E4.out b4 rows _ ER.out R4.out).mono ?_; rintro e w5 ⟨v5, rfl, o5, b5⟩)
    have F5 : Hid (Below w1.heap.size w1 w5) := bT F4.out b5
    have D5 := Lib.hid (bT D4.out b5)
    obtain ⟨s5, c5, rfl, z5⟩ := own_pls o5
    have Z5 := Lib.hid z5
    clear b5 o5 z5
    refine hK.out _ _ ?_ (fun hHeld => ?_)
    · exact KB.out _ F5.out
    clear hK K
    refine wpAnyH_take (i := 6) (oi := _) (v := ?_) rfl (by kernel_rfl) (by kernel_rfl) (by kernel_rfl) (fun _ _ _ h => h) (Or.inl ⟨by rfl, ?_⟩) (by assumption) ?_
    rotate_left
    · first | (intro w hSw; (try dsimp only at hSw); go_simp; done) | (intro w hSw; (try dsimp only at hSw); go_simp; with_reducible rfl)
    try simp only [Act.put, List.setIfInBounds_toArray, List.set_cons_zero, List.set_cons_succ, List.getElem_toArray, List.getElem_cons_succ, List.getElem_cons_zero]
    refine wpAnyH_done (by kernel_rfl) ?_ _
    clear KB E2 E3 E4 D4 F4 D3 F3 R4 ER Z3 X1 F5
    generalize hQN : qs.length = q at *
    have HQ := Lib.hid hQN
    clear hQN
    go_wp2_with fail
    go_loopw [7, 22] (fun v i wr => ∃ (k : Nat) (cu : List Int), i = .int .i64 k ∧ k ≤ q ∧ cu.length ≤ k ∧ Hid (cu = trK pl qs k) ∧ Hid (wr.ownsRow w5.heap.size 2 1 v cu.length (valsZ cu)) ∧ Hid (Below w5.heap.size w5 wr)) (fun _ i _ => q - (intOf i).toNat)
    case atStart => exact ⟨0, [], rfl, Nat.zero_le _, Nat.zero_le _, rfl, ⟨rfl, .inl ⟨rfl, rfl⟩⟩, Below.refl _ _⟩
    case round =>
      obtain ⟨k, cu, rfl, hk, hcl, HC, OR, HB⟩ := hrel
      have hk0 : (0 : Int) ≤ (k : Int) := by omega
      by_cases g1 : k < q
      · have g1' : (k : Int) < (q : Int) := by omega
        have hlt : k < qs.length := by rw [HQ.out]; exact g1
        obtain ⟨c, rfl, PA, hcb⟩ : ∃ c, s5 = some ⟨c, 0, none⟩ ∧ PlAt w5 c 0 qs ∧ w4.heap.size ≤ c := by
          rcases Z5.out with e | h
          · rw [e] at hlt; simp at hlt
          · exact h
        obtain ⟨c0, c1⟩ := (PA.below HB.out).cell k hlt
        rw [Nat.zero_add] at c0 c1
        obtain ⟨x, y, hp⟩ : ∃ x y, qs[k] = (x, y) := ⟨_, _, rfl⟩
        rw [hp] at c0 c1
        dsimp only at c0 c1
        have GD := Lib.hid (show qs.getD k (0, 0) = (x, y) by rw [← hp]; simp [hlt])
        have E := Lib.hid (E5.out x y _ (bA (bT D5.out HB.out) (.cells #[.int .i64 x, .int .i64 y] 34)))
        have O2 := Lib.hid (OR.out.alloc (.cells #[.int .i64 x, .int .i64 y] 34))
        have H3 := Lib.hid (bA HB.out (.cells #[.int .i64 x, .int .i64 y] 34))
        have hsw := HB.out.size
        cases hb : B ((x, y) ∈ pl) with
        | true =>
          rw [hb] at E
          have CS := Lib.hid (show cu ++ [(k : Int) + 1] = trK pl qs (k + 1) by rw [HC.out]; exact (trK_yes pl qs k (by rw [GD.out]; exact hb)).symm)
          have EV := Lib.hid (show valsZ cu ++ [.int .i64 ((k : Int) + 1)] = valsZ (cu ++ [(k : Int) + 1]) by simp [valsZ])
          clear hb hp hlt PA HC GD OR
          go_wp2_with fail
          refine E.out.mono ?_
          rintro e w6 ⟨rfl, b6⟩
          have O6 := Lib.hid (own_below O2.out b6)
          have H6 := Lib.hid (bT H3.out b6)
          have hs6 := H6.out.size
          clear b6 E O2 H3 HB
          go_wp2_with (first | (at_builtin; refine wpList_append_lies _ rfl (.tmp 30) (.tmp 33) 40 rfl w5.heap.size 2 i0 (.int .i64 0) 1 8 Try.underlying40 hi0 hz0 hz1 hz2 rfl (by decide) _ _ _ rfl (O6.out.alloc _) ⟨w6.heap.size, 0, none⟩ 1 1 [.int .i64 ((k : Int) + 1)] rfl rfl (cell_one_new _ _ _) (by intro u hu; simp at hu; subst hu; rfl) (by decide) (by unfold maxLen; omega) (by omega) (by simp; omega) (w6.heap.size + 1) (by simp) ?_))
          intro g9 cap9 w9 own9 grow9 hg9 hlt9
          have B9 := Lib.hid ((bA H6.out (.cells #[.int .i64 ((k : Int) + 1)] 2)).grown grow9 (by simp; omega) (fun j hj => (O6.out.lt j hj).1))
          rw [EV.out] at own9
          have N9 : Hid (w9.ownsRow w5.heap.size 2 1 (.slice (some ⟨g9, 0, none⟩) (cu.length + 1) cap9) (cu ++ [(k : Int) + 1]).length (valsZ (cu ++ [(k : Int) + 1]))) := by
            rw [List.length_append]; exact own9
          have LL := Lib.hid (show (cu ++ [(k : Int) + 1]).length ≤ k + 1 by rw [List.length_append]; simp; omega)
          clear own9 grow9 hg9 hlt9 O6 H6 EV
          go_wp2
          go_roundw
          case rel => exact ⟨k + 1, cu ++ [(k : Int) + 1], by go_num, by omega, LL.out, CS, N9, B9⟩
          case measure => simp [intOf]; omega
        | false =>
          rw [hb] at E
          have CS := Lib.hid (show cu = trK pl qs (k + 1) by rw [HC.out]; exact (trK_no pl qs k (by rw [GD.out]; exact hb)).symm)
          clear hb hp hlt PA HC GD OR
          go_wp2_with fail
          refine E.out.mono ?_
          rintro e w6 ⟨rfl, b6⟩
          have O6 := Lib.hid (own_below O2.out b6)
          have H6 := Lib.hid (bT H3.out b6)
          clear b6 E O2 H3 HB
          go_wp2
          go_roundw
          case rel => exact ⟨k + 1, cu, by go_num, by omega, by omega, CS, O6, H6⟩
          case measure => simp [intOf]; omega
      · have g1' : ¬ (k : Int) < (q : Int) := by omega
        have ek : k = q := by omega
        have P := Lib.hid (own_mono OR.out D5.out.size)
        rw [HC.out, ek, ← HQ.out] at P
        have BB := Lib.hid (bT D5.out HB.out)
        clear OR HC ek
        go_wp2
        go_ret
        exact ⟨_, rfl, P.out, BB.out⟩

end Go.Proofs.Ytdmfljejlhlbnaa
