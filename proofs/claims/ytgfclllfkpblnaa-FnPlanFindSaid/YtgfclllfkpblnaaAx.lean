/-
  A STATION'S CHANNELS UP TO A TOP: the model's answer.
-/
import Derived.Test.YtgfclllfkpblnaaAw
namespace Go.Proofs.Ytgfclllfkpblnaa
open Go.RowKit
set_option linter.unusedVariables false

theorem rise_lt (zs : List Int) (lo hi : Int) (h : InRise lo hi zs) : ∀ i j, i < j → j < zs.length → zs.getD i 0 < zs.getD j 0 := by
  intro i j hij hj
  induction j with
  | zero => omega
  | succ j ih =>
    have h1 := (h (j + 1) hj).2 (by omega)
    simp only [Nat.add_sub_cancel] at h1
    by_cases e : i = j
    · subst e; exact h1
    · have := ih (by omega) (by omega); omega
theorem flat_none (id top : Int) (rs : List LSt) (h : id ∉ idsL rs) : rs.flatMap (domF id top) = [] := by
  rw [List.flatMap_eq_nil_iff]
  intro r hr
  unfold domF FF
  rw [if_neg]
  rintro rfl
  exact h (List.mem_map.2 ⟨r, hr, rfl⟩)
theorem flat_one (id top : Int) (rs : List LSt) (k : Nat) (h : k < rs.length) (hk : rs[k].1 = id) (hu : ∀ i (h : i < rs.length), i ≠ k → rs[i].1 ≠ id) : rs.flatMap (domF id top) = rs[k].2.2.2.filter (fun c => decide (c ≤ top)) := by
  have e : rs = rs.take k ++ rs[k] :: rs.drop (k + 1) := by rw [List.getElem_cons_drop, List.take_append_drop]
  have h1 : (rs.take k).flatMap (domF id top) = [] := by
    rw [List.flatMap_eq_nil_iff]
    intro r hr
    obtain ⟨i, hi, rfl⟩ := List.getElem_of_mem hr
    rw [List.length_take] at hi
    unfold domF FF
    rw [if_neg]
    rw [List.getElem_take]
    exact hu i (by omega) (by omega)
  have h2 : (rs.drop (k + 1)).flatMap (domF id top) = [] := by
    rw [List.flatMap_eq_nil_iff]
    intro r hr
    obtain ⟨i, hi, rfl⟩ := List.getElem_of_mem hr
    rw [List.length_drop] at hi
    unfold domF FF
    rw [if_neg]
    rw [List.getElem_drop]
    exact hu (k + 1 + i) (by omega) (by omega)
  have h3 : domF id top rs[k] = rs[k].2.2.2.filter (fun c => decide (c ≤ top)) := by
    unfold domF FF
    rw [if_pos hk]
  calc rs.flatMap (domF id top) = (rs.take k ++ rs[k] :: rs.drop (k + 1)).flatMap (domF id top) := by rw [← e]
    _ = rs[k].2.2.2.filter (fun c => decide (c ≤ top)) := by rw [List.flatMap_append, h1, List.flatMap_cons, h2, h3]; simp
theorem idsL_at (rs : List LSt) (k : Nat) (h : k < (idsL rs).length) (h2 : k < rs.length) : (idsL rs)[k] = rs[k].1 := by simp [idsL]
/-- Where a station is, when the ids rise. -/
theorem pos_at (rs : List LSt) (id : Int) (h : id ∈ idsL rs) : ∃ k, ∃ hk : k < rs.length, posOf (idsL rs) id = (k : Int) ∧ rs[k].1 = id := by
  have h1 := List.idxOf_lt_length_iff.2 h
  have h2 : (idsL rs).idxOf id < rs.length := by rwa [idsL_len] at h1
  refine ⟨(idsL rs).idxOf id, h2, by unfold posOf; rw [if_pos h1], ?_⟩
  rw [← idsL_at rs _ h1 h2]
  exact List.getElem_idxOf h1

set_option maxRecDepth 100000 in
set_option maxHeartbeats 1000000 in
/-- spec.DomainOf. -/
theorem sdo_any (sl : Option Addr) (cap : Nat) (sl2 : Option Addr) (cap2 : Nat) (rs : List LSt) (ps : List LPr) (id top : Int) (w : World) (hn : rs.length ≤ 1048576) (hz : Sts w sl rs) (hp : Prs w sl2 ps) :
    Calls Try.prog 31 #[TV sl rs.length cap sl2 ps.length cap2, .int .i64 id, .int .i64 top] w fun e w' => ∃ v, e = .returned v ∧ w'.ownsRow w.heap.size 2 1 v (domA rs ps id top).length (valsZ (domA rs ps id top)) ∧ Below w.heap.size w w' := by
  obtain ⟨i0, hi0, hz0, hz1, hz2⟩ := info_parts info2'
  have HT := Lib.hid (TabAt.new w sl rs.length cap sl2 ps.length cap2)
  have B0 := Lib.hid (bA0 w (.cells #[.slice sl rs.length cap, .slice sl2 ps.length cap2] 26))
  have E1 : Hid (∀ W, Below w.heap.size w W → Calls Try.prog 28 #[TV sl rs.length cap sl2 ps.length cap2] W fun e w' => e = .returned (.bool (B (TabR rs ps))) ∧ Below W.heap.size W w') := fun W hW => str_any sl cap sl2 cap2 rs ps W (hz.below hW) (hp.below hW)
  have E2 : Hid (∀ W, Below w.heap.size w W → Calls Try.prog 30 #[TV sl rs.length cap sl2 ps.length cap2, .int .i64 id] W fun e w' => e = .returned (.int .i64 (posOf (idsL rs) id)) ∧ Below W.heap.size W w') := fun W hW => fd_any sl cap sl2 _ cap2 id rs W hn (hz.below hW)
  have HZ := Lib.hid hz
  clear hz hp
  unfold domA
  have O0 := Lib.hid (own_none (w.alloc (.cells #[.slice sl rs.length cap, .slice sl2 ps.length cap2] 26)))
  have hs1 : (w.alloc (.cells #[.slice sl rs.length cap, .slice sl2 ps.length cap2] 26)).heap.size = w.heap.size + 1 := by simp
  rw [hs1] at O0
  cases hb : B (TabR rs ps) with
  | false =>
    rw [hb] at E1
    simp only [Bool.false_eq_true, if_false]
    generalize rs.length = n at *
    generalize ps.length = m at *
    clear hb E2
    go_enter Try.func31, Try.ntmps31
    go_wp2_with fail
    refine (E1.out _ (bA B0.out _)).mono ?_
    rintro e w1 ⟨rfl, b1⟩
    have D1 := Lib.hid (bT (bA B0.out _) b1)
    have O1 := Lib.hid (own_mono (own_below O0.out b1) (Nat.le_add_right w.heap.size 1))
    clear b1 E1
    go_wp2
    go_ret
    exact ⟨_, rfl, O1.out, D1.out⟩
  | true =>
    rw [hb] at E1
    simp only [if_true]
    have TR := Lib.hid (B_true hb)
    by_cases hm : id ∈ idsL rs
    · obtain ⟨k, hk, ep, hid⟩ := pos_at rs id hm
      have hu : ∀ i (h : i < rs.length), i ≠ k → rs[i].1 ≠ id := fun i hi hne e => by
        have r := rise_lt _ _ _ TR.out.2.2.1
        rw [← hid, ← idsL_get rs i hi, ← idsL_get rs k hk] at e
        rcases Nat.lt_or_gt_of_ne hne with g | g
        · have := r i k g (by rw [idsL_len]; exact hk); omega
        · have := r k i g (by rw [idsL_len]; exact hi); omega
      rw [flat_one id top rs k hk hid hu, show rs[k].2.2.2.filter (fun c => decide (c ≤ top)) = FF id id top rs[k].2.2.2 from (if_pos rfl).symm]
      rw [ep] at E2
      obtain ⟨sld, capd, ed, hi, -⟩ := HZ.out.dom rs[k] (List.getElem_mem hk)
      have hd8 := (TR.out.2.1 rs[k] (List.getElem_mem hk)).2.1.2
      obtain ⟨c, o, rfl, Z0⟩ : ∃ c o, sl = some ⟨c, o, none⟩ ∧ StAt w c o rs := by
        rcases HZ.out.row with e | h
        · rw [e] at hk; simp at hk
        · exact h
      have HC2 := Lib.hid (And.intro Z0.lt (Z0.cell k hk).2.2)
      rw [ed] at HC2
      generalize rs[k].2.2.2 = zs at *
      have HI := Lib.hid hi
      clear hi ed hu hid Z0 hm ep hb
      generalize rs.length = n at *
      generalize ps.length = m at *
      have hk' : (k : Int) < (n : Int) := by omega
      have hk0 : ¬ (k : Int) < 0 := by omega
      generalize hQ : zs.length = q at *
      have HQ := Lib.hid hQ
      clear hQ
      go_enter Try.func31, Try.ntmps31
      go_wp2_with fail
      refine (E1.out _ (bA B0.out _)).mono ?_
      rintro e w1 ⟨rfl, b1⟩
      have D1 := Lib.hid (bT (bA B0.out _) b1)
      have O1 := Lib.hid (own_below O0.out b1)
      have T1 := Lib.hid ((HT.out.below (bA0 _ _)).below b1)
      clear b1 E1 HT O0
      obtain ⟨t0, t1⟩ := T1.out.cells
      have tl := T1.out.lt
      go_wp2_with fail
      refine (E2.out _ D1.out).mono ?_
      rintro e w2 ⟨rfl, b2⟩
      have D2 := Lib.hid (bT D1.out b2)
      have O2 := Lib.hid (own_below O1.out b2)
      have T2 := Lib.hid (T1.out.below b2)
      clear b2 t0 t1 tl O1 D1 T1
      obtain ⟨t0, t1⟩ := T2.out.cells
      have tl := T2.out.lt
      have KX : Hid (∀ W, Below w2.heap.size w2 W → w.heap.size < W.heap.size ∧ W.cell? ⟨w.heap.size, 0, none⟩ = some (.slice (some ⟨c, o, none⟩) n cap) ∧ W.cell? ⟨w.heap.size, 1, none⟩ = some (.slice sl2 m cap2) ∧ c < W.heap.size ∧ W.cell? ⟨c, o + k * 3 + 2, none⟩ = some (.slice sld q capd)) := fun W hW => by
        have r1 := (T2.out.below hW).cells
        have dw := bT D2.out hW
        exact ⟨(T2.out.below hW).lt, r1.1, r1.2, Nat.lt_of_lt_of_le HC2.out.1 dw.size, (dw.cell HC2.out.1).trans HC2.out.2⟩
      go_wp2_with fail
      refine wp_region_held_drew (S := fun W => w.heap.size < W.heap.size ∧ W.cell? ⟨w.heap.size, 0, none⟩ = some (.slice (some ⟨c, o, none⟩) n cap) ∧ W.cell? ⟨w.heap.size, 1, none⟩ = some (.slice sl2 m cap2) ∧ c < W.heap.size ∧ W.cell? ⟨c, o + k * 3 + 2, none⟩ = some (.slice sld q capd)) (by kernel_rfl) ?_ (fun hHeld => ?_)
      · exact KX.out _ (Below.refl _ _).drew
      refine wpAnyH_take (i := 0) (oi := _) (v := ?_) rfl (by kernel_rfl) (by kernel_rfl) (by kernel_rfl) (fun _ _ _ h => h) (Or.inl ⟨by rfl, ?_⟩) (by assumption) ?_
      rotate_left
      · first | (intro w hSw; (try dsimp only at hSw); go_simp; done) | (intro w hSw; (try dsimp only at hSw); go_simp; with_reducible rfl)
      try simp only [Act.put, List.setIfInBounds_toArray, List.set_cons_zero, List.set_cons_succ, List.getElem_toArray, List.getElem_cons_zero]
      refine wpAnyH_take (i := 1) (oi := _) (v := ?_) rfl (by kernel_rfl) (by kernel_rfl) (by kernel_rfl) (fun _ _ _ h => h) (Or.inl ⟨by rfl, ?_⟩) (by assumption) ?_
      rotate_left
      · first | (intro w hSw; (try dsimp only at hSw); go_simp; done) | (intro w hSw; (try dsimp only at hSw); go_simp; with_reducible rfl)
      try simp only [Act.put, List.setIfInBounds_toArray, List.set_cons_zero, List.set_cons_succ, List.getElem_toArray, List.getElem_cons_succ, List.getElem_cons_zero]
      refine wpAnyH_take (i := 2) (oi := _) (v := ?_) rfl (by kernel_rfl) (by kernel_rfl) (by kernel_rfl) (fun _ _ _ h => h) (Or.inl ⟨by rfl, ?_⟩) (by assumption) ?_
      rotate_left
      · first | (intro w hSw; (try dsimp only at hSw); go_simp; done) | (intro w hSw; (try dsimp only at hSw); go_simp; with_reducible rfl)
      try simp only [Act.put, List.setIfInBounds_toArray, List.set_cons_zero, List.set_cons_succ, List.getElem_toArray, List.getElem_cons_succ, List.getElem_cons_zero]
      refine wpAnyH_take (i := 3) (oi := _) (v := ?_) rfl (by kernel_rfl) (by kernel_rfl) (by kernel_rfl) (fun _ _ _ h => h) (Or.inl ⟨by rfl, ?_⟩) (by assumption) ?_
      rotate_left
      · first | (intro w hSw; (try dsimp only at hSw); go_simp; done) | (intro w hSw; (try dsimp only at hSw); go_simp; with_reducible rfl)
      try simp only [Act.put, List.setIfInBounds_toArray, List.set_cons_zero, List.set_cons_succ, List.getElem_toArray, List.getElem_cons_succ, List.getElem_cons_zero]
      refine wpAnyH_ready (rs := [4]) (by kernel_rfl) (by simp) ?_
      refine AllReadyH.cons rfl (fun K hK => ?_) AllReadyH.nil
      go_simp
      go_wp2_with (go_at_call 30; refine (E2.out _ D2.out.drew).mono ?_; rintro e w3 ⟨rfl, b3⟩)
      have D3 : Hid (Below w2.heap.size w2 w3) := bT ((Below.refl w2.heap.size w2).drew) b3
      clear b3
      refine hK.out _ _ ?_ (fun hHeld => ?_)
      · exact KX.out _ D3.out
      clear hK K
      refine wpAnyH_take (i := 5) (oi := _) (v := ?_) rfl (by kernel_rfl) (by kernel_rfl) (by kernel_rfl) (fun _ _ _ h => h) (Or.inl ⟨by rfl, ?_⟩) (by assumption) ?_
      rotate_left
      · first | (intro w hSw; (try dsimp only at hSw); go_simp; done) | (intro w hSw; (try dsimp only at hSw); go_simp; with_reducible rfl)
      try simp only [Act.put, List.setIfInBounds_toArray, List.set_cons_zero, List.set_cons_succ, List.getElem_toArray, List.getElem_cons_succ, List.getElem_cons_zero]
      refine wpAnyH_take (i := 6) (oi := _) (v := ?_) rfl (by kernel_rfl) (by kernel_rfl) (by kernel_rfl) (fun _ _ _ h => h) (Or.inl ⟨by rfl, ?_⟩) (by assumption) ?_
      rotate_left
      · first | (intro w hSw; (try dsimp only at hSw); go_simp; done) | (intro w hSw; (try dsimp only at hSw); go_simp; with_reducible rfl)
      try simp only [Act.put, List.setIfInBounds_toArray, List.set_cons_zero, List.set_cons_succ, List.getElem_toArray, List.getElem_cons_succ, List.getElem_cons_zero]
      refine wpAnyH_take (i := 7) (oi := _) (v := ?_) rfl (by kernel_rfl) (by kernel_rfl) (by kernel_rfl) (fun _ _ _ h => h) (Or.inl ⟨by rfl, ?_⟩) (by assumption) ?_
      rotate_left
      · first | (intro w hSw; (try dsimp only at hSw); go_simp; done) | (intro w hSw; (try dsimp only at hSw); go_simp; with_reducible rfl)
      try simp only [Act.put, List.setIfInBounds_toArray, List.set_cons_zero, List.set_cons_succ, List.getElem_toArray, List.getElem_cons_succ, List.getElem_cons_zero]
      refine wpAnyH_take (i := 8) (oi := _) (v := ?_) rfl (by kernel_rfl) (by kernel_rfl) (by kernel_rfl) (fun _ _ _ h => h) (Or.inl ⟨by rfl, ?_⟩) (by assumption) ?_
      rotate_left
      · first | (intro w hSw; (try dsimp only at hSw); go_simp; done) | (intro w hSw; (try dsimp only at hSw); go_simp; with_reducible rfl)
      try simp only [Act.put, List.setIfInBounds_toArray, List.set_cons_zero, List.set_cons_succ, List.getElem_toArray, List.getElem_cons_succ, List.getElem_cons_zero]
      refine wpAnyH_done (by kernel_rfl) ?_ _
      have B3 := Lib.hid (bT D2.out D3.out)
      have O3 := Lib.hid (own_below O2.out D3.out)
      have hs3 := B3.out.size
      have hs4 : w.heap.size + 1 < w3.heap.size := (O3.out.lt (w.heap.size + 1) rfl).2
      clear KX D3 O2 D2 T2 E2 t0 t1 tl
      generalize hA : FF id id top zs = ans
      have HA := Lib.hid hA
      clear hA
      go_wp2
      go_loopw [7, 9] (fun v i wr => ∃ (j : Nat) (cu : List Int), i = .int .i64 j ∧ j ≤ q ∧ cu.length ≤ j ∧ Hid (cu = FF id id top (zs.take j)) ∧ Hid (wr.ownsRow (w.heap.size + 1) 2 1 v cu.length (valsZ cu)) ∧ Hid (Below (w.heap.size + 1) w3 wr)) (fun _ i _ => q - (intOf i).toNat)
      case atStart => exact ⟨0, [], rfl, Nat.zero_le _, Nat.zero_le _, (by show [] = FF id id top (zs.take 0); rw [List.take_zero, FF_nil]), O3, Below.refl _ _⟩
      case round =>
        obtain ⟨j, cu, rfl, hj, hcu, HC, H1, H2⟩ := hrel
        have hj0 : (0 : Int) ≤ (j : Int) := by omega
        have hs5 := H2.out.size
        have DV := Lib.hid (B3.out.trans (H2.out.mono (Nat.le_add_right _ 1)))
        by_cases g1 : j < q
        · have g1' : (j : Int) < (q : Int) := by omega
          have hlt : j < zs.length := by rw [HQ.out]; exact g1
          obtain ⟨cd, od, rfl, ZI⟩ : ∃ c o, sld = some ⟨c, o, none⟩ ∧ IntsAt w c o zs := by
            rcases HI.out with e | h
            · rw [e] at hlt; simp at hlt
            · exact h
          have hc := (DV.out.cell (p := ⟨cd, od + j, none⟩) ZI.1).trans (ZI.2 j hlt)
          by_cases a2 : zs.getD j 0 ≤ top
          · have HN2 := Lib.hid (show cu ++ [zs.getD j 0] = FF id id top (zs.take (j + 1)) by rw [FF_yes id id top zs j hlt rfl a2, ← HC.out])
            have EV := Lib.hid (show valsZ cu ++ [.int .i64 (zs.getD j 0)] = valsZ (cu ++ [zs.getD j 0]) by simp [valsZ])
            generalize zs.getD j 0 = z at *
            clear hlt ZI HC
            go_wp2_with (first | (at_builtin; refine wpList_append_lies _ rfl (.tmp 41) (.tmp 46) 27 rfl (w.heap.size + 1) 2 i0 (.int .i64 0) 1 8 Try.underlying27 hi0 hz0 hz1 hz2 rfl (by decide) _ _ _ rfl (H1.out.alloc _) ⟨wr.heap.size, 0, none⟩ 1 1 [.int .i64 z] rfl rfl (cell_one_new _ _ _) (by intro u hu; simp at hu; subst hu; rfl) (by decide) (by unfold maxLen; omega) (by omega) (by simp; omega) (wr.heap.size + 1) (by simp) ?_))
            intro g9 cap9 w9 own9 grow9 hg9 hlt9
            have B9 := Lib.hid ((H2.out.alloc (by omega) (.cells #[.int .i64 z] 2)).grown grow9 (by simp; omega) (fun j hj => (H1.out.lt j hj).1))
            rw [EV.out] at own9
            have N9 : Hid (w9.ownsRow (w.heap.size + 1) 2 1 (.slice (some ⟨g9, 0, none⟩) (cu.length + 1) cap9) (cu ++ [z]).length (valsZ (cu ++ [z]))) := by
              rw [List.length_append]; exact own9
            have LL := Lib.hid (show (cu ++ [z]).length ≤ j + 1 by rw [List.length_append]; simp; omega)
            clear own9 grow9 hg9 hlt9 H1 H2 EV
            go_wp2
            go_roundw
            case rel => exact ⟨j + 1, cu ++ [z], by go_num, by omega, LL.out, HN2, N9, B9⟩
            case measure => simp [intOf]; omega
          · have HN2 := Lib.hid (show cu = FF id id top (zs.take (j + 1)) by rw [FF_no id id top zs j hlt (fun g => a2 g.2)]; exact HC.out)
            generalize zs.getD j 0 = z at *
            clear hlt ZI HC
            go_wp2
            go_roundw
            case rel => exact ⟨j + 1, cu, by go_num, by omega, by omega, HN2, H1, H2⟩
            case measure => simp [intOf]; omega
        · have g1' : ¬ (j : Int) < (q : Int) := by omega
          have P := Lib.hid (show cu = ans by rw [HC.out, List.take_of_length_le (by rw [HQ.out]; omega), HA.out])
          have OP := Lib.hid (own_mono H1.out (Nat.le_add_right w.heap.size 1))
          rw [P.out, ← HA.out] at OP
          clear H1 HC P
          go_wp2
          go_ret
          exact ⟨_, rfl, OP.out, DV.out⟩
    · rw [flat_none id top rs hm]
      rw [posOf_miss hm] at E2
      clear hm hb
      generalize rs.length = n at *
      generalize ps.length = m at *
      go_enter Try.func31, Try.ntmps31
      go_wp2_with fail
      refine (E1.out _ (bA B0.out _)).mono ?_
      rintro e w1 ⟨rfl, b1⟩
      have D1 := Lib.hid (bT (bA B0.out _) b1)
      have O1 := Lib.hid (own_below O0.out b1)
      have T1 := Lib.hid ((HT.out.below (bA0 _ _)).below b1)
      clear b1 E1 HT O0
      obtain ⟨t0, t1⟩ := T1.out.cells
      have tl := T1.out.lt
      go_wp2_with fail
      refine (E2.out _ D1.out).mono ?_
      rintro e w2 ⟨rfl, b2⟩
      have D2 := Lib.hid (bT D1.out b2)
      have O2 := Lib.hid (own_mono (own_below O1.out b2) (Nat.le_add_right w.heap.size 1))
      clear b2
      go_wp2
      go_ret
      exact ⟨_, rfl, O2.out, D2.out⟩

end Go.Proofs.Ytgfclllfkpblnaa
