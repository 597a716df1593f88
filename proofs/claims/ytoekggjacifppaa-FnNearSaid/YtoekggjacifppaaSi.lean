/-
  THE LAW FnNear: the walk.
-/
import Derived.Test.YtoekggjacifppaaSh
import Derived.Test.YtoekggjacifppaaCb
namespace Go.Proofs.Ytoekggjacifppaa
open Go.RowKit
set_option linter.unusedVariables false

theorem nr_early (sl0 : Option Addr) (len0 cap0 : Nat) (sl1 : Option Addr) (len1 cap1 : Nat) (w : World) (h : 1048576 < len0 ∨ 1048576 < len1) (l0 : len0 ≤ maxLen) (l1 : len1 ≤ maxLen) :
    Calls Try.prog 3 #[.slice sl0 len0 cap0, .slice sl1 len1 cap1] w fun e w' => e = .returned (.bool true) ∧ Below w.heap.size w w' := by
  unfold maxLen at l0 l1
  by_cases h0 : 1048576 < len0
  · have h0' : (1048576 : Int) < (len0 : Int) := by omega
    go_enter Try.func3, Try.ntmps3
    go_wp2
    go_ret
    exact ⟨rfl, Below.refl _ _⟩
  · have h0' : ¬ (1048576 : Int) < (len0 : Int) := by omega
    have h1' : (1048576 : Int) < (len1 : Int) := by omega
    go_enter Try.func3, Try.ntmps3
    go_wp2
    go_ret
    exact ⟨rfl, Below.refl _ _⟩

set_option maxRecDepth 100000 in
set_option maxHeartbeats 4000000 in
theorem law3 (sl0 : Option Addr) (len0 cap0 : Nat) (sl1 : Option Addr) (len1 cap1 : Nat) (w : World) (r0 : RowIn w sl0 len0) (r1 : RowIn w sl1 len1) :
    Calls Try.prog 3 #[.slice sl0 len0 cap0, .slice sl1 len1 cap1] w fun e w' => e = .returned (.bool true) ∧ Below w.heap.size w w' := by
  by_cases hlen : 1048576 < len0 ∨ 1048576 < len1
  · exact nr_early _ _ _ _ _ _ w hlen r0.1 r1.1
  have hl0 : ¬ (1048576 : Int) < (len0 : Int) := by omega
  have hl1 : ¬ (1048576 : Int) < (len1 : Int) := by omega
  have DR := Lib.hid (draw_any sl0 len0 cap0 w r0)
  have LA : Hid (∀ W, Below w.heap.size w W → Calls Try.prog 17 #[.slice sl1 len1 cap1, .int .i64 0, .int .i64 8] W fun e w' => ∃ r : Int, e = .returned (.int .i64 r) ∧ 0 ≤ r ∧ r < 8 ∧ Below W.heap.size W w') := fun W hW => lwat_any sl1 len1 cap1 W (r1.below hW)
  clear r0 r1 hlen
  go_enter Try.func3, Try.ntmps3
  go_wp2_with fail
  refine DR.out.mono ?_
  rintro e w1 ⟨sl, cap, sl2, cap2, rs, ps, rfl, hr, hp, hw, st, pr, bl1⟩
  have hn : rs.length ≤ 1048576 := by omega
  have X1 := Lib.hid (TabAt.new w1 sl rs.length cap sl2 ps.length cap2)
  have Y1 := Lib.hid (bA0 w1 (.cells #[.slice sl rs.length cap, .slice sl2 ps.length cap2] 26))
  have D1 := Lib.hid (bA bl1 (.cells #[.slice sl rs.length cap, .slice sl2 ps.length cap2] 26))
  -- every call upon the table
  have E13 : Hid (∀ W, Below w1.heap.size w1 W → Calls Try.prog 13 #[TV sl rs.length cap sl2 ps.length cap2] W fun e w' => e = .returned (.bool (B (TabR rs ps))) ∧ Below W.heap.size W w') := fun W hW => str_any sl cap sl2 cap2 rs ps W (st.below hW) (pr.below hW)
  have E14 : Hid (∀ W, Below w1.heap.size w1 W → Calls Try.prog 14 #[TV sl rs.length cap sl2 ps.length cap2] W fun e w' => ∃ v, e = .returned v ∧ w'.ownsRow W.heap.size 2 1 v (idsA rs ps).length (valsZ (idsA rs ps)) ∧ Below W.heap.size W w') := fun W hW => iti_any sl cap sl2 cap2 rs ps W hn (st.below hW) (pr.below hW) hw
  have E16 : Hid (∀ W, Below w1.heap.size w1 W → Calls Try.prog 16 #[TV sl rs.length cap sl2 ps.length cap2] W fun e w' => ∃ v, e = .returned v ∧ w'.ownsRow W.heap.size 2 1 v (idsA rs ps).length (valsZ (idsA rs ps)) ∧ Below W.heap.size W w') := fun W hW => sti_any sl cap sl2 cap2 rs ps W hn (st.below hW) (pr.below hW)
  have E18 : Hid (∀ id W, Below w1.heap.size w1 W → Calls Try.prog 18 #[TV sl rs.length cap sl2 ps.length cap2, .int .i64 id] W fun e w' => ∃ v, e = .returned v ∧ w'.ownsRow W.heap.size 2 1 v (nearA rs ps id).length (valsZ (nearA rs ps id)) ∧ Below W.heap.size W w') := fun id W hW => itn_any sl cap sl2 cap2 rs ps id W hn (st.below hW) (pr.below hW) hw
  have E19 : Hid (∀ id W, Below w1.heap.size w1 W → Calls Try.prog 19 #[TV sl rs.length cap sl2 ps.length cap2, .int .i64 id] W fun e w' => ∃ v, e = .returned v ∧ w'.ownsRow W.heap.size 2 1 v (nearA rs ps id).length (valsZ (nearA rs ps id)) ∧ Below W.heap.size W w') := fun id W hW => stn_any sl cap sl2 cap2 rs ps id W hn (st.below hW) (pr.below hW)
  have E21 : Hid (∀ id top W, Below w1.heap.size w1 W → Calls Try.prog 21 #[TV sl rs.length cap sl2 ps.length cap2, .int .i64 id, .int .i64 top] W fun e w' => ∃ v, e = .returned v ∧ w'.ownsRow W.heap.size 2 1 v (domA rs ps id top).length (valsZ (domA rs ps id top)) ∧ Below W.heap.size W w') := fun id top W hW => ido_any sl cap sl2 cap2 rs ps id top W hn (st.below hW) (pr.below hW) hw
  have E15 : Hid (∀ (zs : List Int) C C' v v' W, zs.length ≤ 1048576 → World.ownsRow W C 2 1 v zs.length (valsZ zs) → World.ownsRow W C' 2 1 v' zs.length (valsZ zs) → Calls Try.prog 15 #[v, v'] W fun e w' => e = .returned (.bool true) ∧ Below W.heap.size W w') := fun zs C C' v v' W hz o o' => by
    obtain ⟨s1, k1, rfl, i1⟩ := own_ints o
    obtain ⟨s2, k2, rfl, i2⟩ := own_ints o'
    exact lws_any s1 s2 k1 k2 zs W (by unfold maxLen; omega) i1 i2
  have E20 : Hid (∀ (zs : List Int) C v x W, zs.length ≤ 1048576 → World.ownsRow W C 2 1 v zs.length (valsZ zs) → x ∈ zs → Calls Try.prog 20 #[v, .int .i64 x] W fun e w' => e = .returned (.bool true) ∧ w' = W) := fun zs C v x W hz o hx => by
    obtain ⟨s1, k1, rfl, i1⟩ := own_ints o
    exact lwh_any s1 k1 zs x W hz i1 hx
  clear st pr hw hn DR bl1
  have hlen := hr
  generalize hN : rs.length = n at *
  generalize ps.length = m at *
  go_wp2_with fail
  obtain ⟨wt, ewt⟩ : ∃ wt, wt = w1.alloc (.cells #[.slice sl n cap, .slice sl2 m cap2] 26) := ⟨_, rfl⟩
  rw [← ewt] at X1 Y1 D1 ⊢
  obtain ⟨tb, etb⟩ : ∃ tb, tb = w1.heap.size := ⟨_, rfl⟩
  have hs1 := Y1.out.size
  clear ewt
  refine (E13.out _ Y1.out).mono ?_
  rintro e w2 ⟨rfl, b2⟩
  have Y2 := Lib.hid (bT Y1.out b2)
  have D2 := Lib.hid (bT D1.out b2)
  have X2 := Lib.hid (X1.out.below b2)
  clear b2 X1 Y1 D1
  obtain ⟨x0, x1⟩ := X2.out.cells
  have xl := X2.out.lt
  by_cases hT : TabR rs ps
  · rw [B_yes hT]
    have hidl : idsA rs ps = idsL rs := if_pos (B_yes hT)
    go_wp2_with fail
    refine (E14.out _ Y2.out).mono ?_
    rintro e w3 ⟨v3, rfl, o3, b3⟩
    rw [hidl] at o3 E16
    have Y3 := Lib.hid (bT Y2.out b3)
    have D3 := Lib.hid (bT D2.out b3)
    have X3 := Lib.hid (X2.out.below b3)
    have O3 := Lib.hid o3
    clear b3 X2 Y2 D2 x0 x1 xl o3 E14 E13
    obtain ⟨x0, x1⟩ := X3.out.cells
    have xl := X3.out.lt
    go_wp2_with fail
    refine (E16.out _ Y3.out).mono ?_
    rintro e w4 ⟨v4, rfl, o4, b4⟩
    have Y4 := Lib.hid (bT Y3.out b4)
    have D4 := Lib.hid (bT D3.out b4)
    have X4 := Lib.hid (X3.out.below b4)
    have O4 := Lib.hid (own_below O3.out b4)
    have Q4 := Lib.hid (E15.out (idsL rs) _ _ v3 v4 w4 (by rw [idsL_len]; omega) O4.out o4)
    clear b4 X3 Y3 D3 x0 x1 xl o4 O3 E16
    go_wp2_with fail
    refine Q4.out.mono ?_
    rintro e w5 ⟨rfl, b5⟩
    have Y5 := Lib.hid (bT Y4.out b5)
    have D5 := Lib.hid (bT D4.out b5)
    have X5 := Lib.hid (X4.out.below b5)
    have O5 := Lib.hid (own_below O4.out b5)
    clear b5 X4 Y4 D4 O4 Q4
    go_wp2_with fail
    refine (LA.out _ D5.out).mono ?_
    rintro e w6 ⟨r, rfl, hr0, hr8, b6⟩
    have Y6 := Lib.hid (bT Y5.out b6)
    have D6 := Lib.hid (bT D5.out b6)
    have X6 := Lib.hid (X5.out.below b6)
    have O6 := Lib.hid (own_below O5.out b6)
    clear b6 X5 Y5 D5 O5 LA
    obtain ⟨sl3, cap3, rfl, i3⟩ := own_ints O6.out
    have I6 := Lib.hid i3
    clear i3 O6
    generalize hL : (idsL rs).length = q at *
    go_wp2
    have hq1 : 1 ≤ q := by rw [← hL, idsL_len]; exact hT.1.1
    have hq14 : q ≤ 14 := by rw [← hL, idsL_len]; omega
    obtain ⟨c, o, rfl, hI⟩ : ∃ c o, sl3 = some ⟨c, o, none⟩ ∧ IntsAt w6 c o (idsL rs) := by
      rcases I6.out with e | h
      · rw [e] at hL; simp at hL; omega
      · exact h
    have HI := Lib.hid hI
    have HL := Lib.hid hL
    have HT := Lib.hid hT
    clear hI I6 hL hN hT hidl
    obtain ⟨top, htop⟩ : ∃ top, top = 2 + r := ⟨_, rfl⟩
    rw [← htop]
    have htop2 : 2 ≤ top ∧ top ≤ 9 := by omega
    clear htop hr0 hr8
    go_loopw [8] (fun iv W => ∃ k : Nat, iv = .int .i64 (k : Int) ∧ k ≤ q ∧ Hid (Below w6.heap.size w6 W)) (fun iv _ => q - (intOf iv).toNat)
    case atStart => exact ⟨0, rfl, Nat.zero_le _, Below.refl _ _⟩
    case round =>
      obtain ⟨k, rfl, hk, HB⟩ := hrel
      have hk0 : (0 : Int) ≤ (k : Int) := by omega
      by_cases hkq : k < q
      · have hkq' : (k : Int) < (q : Int) := by omega
        obtain ⟨id, hgid⟩ : ∃ id, id = (idsL rs).getD k 0 := ⟨_, rfl⟩
        have KX : Hid (∀ W, Below w6.heap.size w6 W → w1.heap.size < W.heap.size ∧ W.cell? ⟨w1.heap.size, 0, none⟩ = some (.slice sl n cap) ∧ W.cell? ⟨w1.heap.size, 1, none⟩ = some (.slice sl2 m cap2) ∧ c < W.heap.size ∧ W.cell? ⟨c, o + k, none⟩ = some (.int .i64 id)) := fun W hW => by
          obtain ⟨x0, x1⟩ := (X6.out.below hW).cells
          exact ⟨(X6.out.below hW).lt, x0, x1, Nat.lt_of_lt_of_le HI.out.1 hW.size, by rw [hgid]; exact (hW.cell HI.out.1).trans (HI.out.2 k (by rw [HL.out]; exact hkq))⟩
        clear hgid
        go_wp2_with fail
        refine wp_region_held_drew (S := fun W => w1.heap.size < W.heap.size ∧ W.cell? ⟨w1.heap.size, 0, none⟩ = some (.slice sl n cap) ∧ W.cell? ⟨w1.heap.size, 1, none⟩ = some (.slice sl2 m cap2) ∧ c < W.heap.size ∧ W.cell? ⟨c, o + k, none⟩ = some (.int .i64 id)) (by kernel_rfl) ?_ (fun hHeld => ?_)
        · exact KX.out _ HB.out.drew
        refine wpAnyH_take (i := 0) (oi := _) (v := ?_) rfl (by kernel_rfl) (by kernel_rfl) (by kernel_rfl) (fun _ _ _ h => h) (Or.inl ⟨by rfl, ?_⟩) (by assumption) ?_
        rotate_left
        · first | (intro w hSw; (try dsimp only at hSw); go_simp; done) | (intro w hSw; (try dsimp only at hSw); go_simp; with_reducible rfl)
        try simp only [Act.put, List.setIfInBounds_toArray, List.set_cons_zero, List.set_cons_succ, List.getElem_toArray, List.getElem_cons_zero]
        refine wpAnyH_take (i := 1) (oi := _) (v := ?_) rfl (by kernel_rfl) (by kernel_rfl) (by kernel_rfl) (fun _ _ _ h => h) (Or.inl ⟨by rfl, ?_⟩) (by assumption) ?_
        rotate_left
        · first | (intro w hSw; (try dsimp only at hSw); go_simp; done) | (intro w hSw; (try dsimp only at hSw); go_simp; with_reducible rfl)
        try simp only [Act.put, List.setIfInBounds_toArray, List.set_cons_zero, List.set_cons_succ, List.getElem_toArray, List.getElem_cons_succ, List.getElem_cons_zero]
        refine wpAnyH_take (i := 2) (oi := _) (v := ?_) rfl (by kernel_rfl) (by kernel_rfl) (by kernel_rfl) (fun _ _ _ h => h) (Or.inl ⟨by rfl, ?_⟩) (by assumption) ?_
        rotate_left
        · first | (intro w hSw; (try dsimp only at hSw); go_simp; done) | (intro w hSw; (try dsimp only at hSw); go_simp; with_reducible rfl)
        try simp only [Act.put, List.setIfInBounds_toArray, List.set_cons_zero, List.set_cons_succ, List.getElem_toArray, List.getElem_cons_succ, List.getElem_cons_zero]
        refine wpAnyH_take (i := 3) (oi := _) (v := ?_) rfl (by kernel_rfl) (by kernel_rfl) (by kernel_rfl) (fun _ _ _ h => h) (Or.inl ⟨by rfl, ?_⟩) (by assumption) ?_
        rotate_left
        · first | (intro w hSw; (try dsimp only at hSw); go_simp; done) | (intro w hSw; (try dsimp only at hSw); go_simp; with_reducible rfl)
        try simp only [Act.put, List.setIfInBounds_toArray, List.set_cons_zero, List.set_cons_succ, List.getElem_toArray, List.getElem_cons_succ, List.getElem_cons_zero]
        refine wpAnyH_take (i := 4) (oi := _) (v := ?_) rfl (by kernel_rfl) (by kernel_rfl) (by kernel_rfl) (fun _ _ _ h => h) (Or.inl ⟨by rfl, ?_⟩) (by assumption) ?_
        rotate_left
        · first | (intro w hSw; (try dsimp only at hSw); go_simp; done) | (intro w hSw; (try dsimp only at hSw); go_simp; with_reducible rfl)
        try simp only [Act.put, List.setIfInBounds_toArray, List.set_cons_zero, List.set_cons_succ, List.getElem_toArray, List.getElem_cons_succ, List.getElem_cons_zero]
        refine wpAnyH_ready (rs := [5]) (by kernel_rfl) (by simp) ?_
        refine AllReadyH.cons rfl (fun K hK => ?_) AllReadyH.nil
        go_simp
        go_wp2_with (go_at_call 18; refine (E18.out id _ (bT Y6.out HB.out.drew)).mono ?_; rintro e w8 ⟨v8, rfl, q8, b8⟩)
        have B8 := Lib.hid (bT HB.out.drew b8)
        have O8 := Lib.hid q8
        clear q8 b8
        refine hK.out _ _ ?_ (fun hHeld => ?_)
        · exact KX.out _ B8.out
        clear hK K
        refine wpAnyH_take (i := 6) (oi := _) (v := ?_) rfl (by kernel_rfl) (by kernel_rfl) (by kernel_rfl) (fun _ _ _ h => h) (Or.inl ⟨by rfl, ?_⟩) (by assumption) ?_
        rotate_left
        · first | (intro w hSw; (try dsimp only at hSw); go_simp; done) | (intro w hSw; (try dsimp only at hSw); go_simp; with_reducible rfl)
        try simp only [Act.put, List.setIfInBounds_toArray, List.set_cons_zero, List.set_cons_succ, List.getElem_toArray, List.getElem_cons_succ, List.getElem_cons_zero]
        refine wpAnyH_done (by kernel_rfl) ?_ _
        obtain ⟨zs, hzs'⟩ : ∃ zs, zs = nearA rs ps id := ⟨_, rfl⟩
        have hzs := hzs'.symm
        rw [hzs] at O8
        have hnl : zs.length ≤ 40 := by rw [hzs']; exact near_le rs ps id HT.out
        have NB : Hid (∀ x ∈ zs, id ∈ nearA rs ps x) := fun x hx => near_back rs ps id x HT.out (by rwa [hzs'] at hx)
        clear hzs' HB
        obtain ⟨sl8, cap8, rfl, i8⟩ := own_ints O8.out
        have I8 := Lib.hid i8
        clear i8
        go_wp2_with fail
        refine wp_region_held_drew (S := fun W => w1.heap.size < W.heap.size ∧ W.cell? ⟨w1.heap.size, 0, none⟩ = some (.slice sl n cap) ∧ W.cell? ⟨w1.heap.size, 1, none⟩ = some (.slice sl2 m cap2) ∧ c < W.heap.size ∧ W.cell? ⟨c, o + k, none⟩ = some (.int .i64 id)) (by kernel_rfl) ?_ (fun hHeld => ?_)
        · exact KX.out _ B8.out.drew
        refine wpAnyH_take (i := 0) (oi := _) (v := ?_) rfl (by kernel_rfl) (by kernel_rfl) (by kernel_rfl) (fun _ _ _ h => h) (Or.inl ⟨by rfl, ?_⟩) (by assumption) ?_
        rotate_left
        · first | (intro w hSw; (try dsimp only at hSw); go_simp; done) | (intro w hSw; (try dsimp only at hSw); go_simp; with_reducible rfl)
        try simp only [Act.put, List.setIfInBounds_toArray, List.set_cons_zero, List.set_cons_succ, List.getElem_toArray, List.getElem_cons_zero]
        refine wpAnyH_take (i := 1) (oi := _) (v := ?_) rfl (by kernel_rfl) (by kernel_rfl) (by kernel_rfl) (fun _ _ _ h => h) (Or.inl ⟨by rfl, ?_⟩) (by assumption) ?_
        rotate_left
        · first | (intro w hSw; (try dsimp only at hSw); go_simp; done) | (intro w hSw; (try dsimp only at hSw); go_simp; with_reducible rfl)
        try simp only [Act.put, List.setIfInBounds_toArray, List.set_cons_zero, List.set_cons_succ, List.getElem_toArray, List.getElem_cons_succ, List.getElem_cons_zero]
        refine wpAnyH_take (i := 2) (oi := _) (v := ?_) rfl (by kernel_rfl) (by kernel_rfl) (by kernel_rfl) (fun _ _ _ h => h) (Or.inl ⟨by rfl, ?_⟩) (by assumption) ?_
        rotate_left
        · first | (intro w hSw; (try dsimp only at hSw); go_simp; done) | (intro w hSw; (try dsimp only at hSw); go_simp; with_reducible rfl)
        try simp only [Act.put, List.setIfInBounds_toArray, List.set_cons_zero, List.set_cons_succ, List.getElem_toArray, List.getElem_cons_succ, List.getElem_cons_zero]
        refine wpAnyH_take (i := 3) (oi := _) (v := ?_) rfl (by kernel_rfl) (by kernel_rfl) (by kernel_rfl) (fun _ _ _ h => h) (Or.inl ⟨by rfl, ?_⟩) (by assumption) ?_
        rotate_left
        · first | (intro w hSw; (try dsimp only at hSw); go_simp; done) | (intro w hSw; (try dsimp only at hSw); go_simp; with_reducible rfl)
        try simp only [Act.put, List.setIfInBounds_toArray, List.set_cons_zero, List.set_cons_succ, List.getElem_toArray, List.getElem_cons_succ, List.getElem_cons_zero]
        refine wpAnyH_take (i := 4) (oi := _) (v := ?_) rfl (by kernel_rfl) (by kernel_rfl) (by kernel_rfl) (fun _ _ _ h => h) (Or.inl ⟨by rfl, ?_⟩) (by assumption) ?_
        rotate_left
        · first | (intro w hSw; (try dsimp only at hSw); go_simp; done) | (intro w hSw; (try dsimp only at hSw); go_simp; with_reducible rfl)
        try simp only [Act.put, List.setIfInBounds_toArray, List.set_cons_zero, List.set_cons_succ, List.getElem_toArray, List.getElem_cons_succ, List.getElem_cons_zero]
        refine wpAnyH_take (i := 5) (oi := _) (v := ?_) rfl (by kernel_rfl) (by kernel_rfl) (by kernel_rfl) (fun _ _ _ h => h) (Or.inl ⟨by rfl, ?_⟩) (by assumption) ?_
        rotate_left
        · first | (intro w hSw; (try dsimp only at hSw); go_simp; done) | (intro w hSw; (try dsimp only at hSw); go_simp; with_reducible rfl)
        try simp only [Act.put, List.setIfInBounds_toArray, List.set_cons_zero, List.set_cons_succ, List.getElem_toArray, List.getElem_cons_succ, List.getElem_cons_zero]
        refine wpAnyH_ready (rs := [6]) (by kernel_rfl) (by simp) ?_
        refine AllReadyH.cons rfl (fun K hK => ?_) AllReadyH.nil
        go_simp
        go_wp2_with (go_at_call 19; refine (E19.out id _ (bT Y6.out B8.out.drew)).mono ?_; rintro e w9 ⟨v9, rfl, q9, b9⟩)
        have B9 := Lib.hid (bT B8.out.drew b9)
        have F9 : Hid (Below w8.heap.size w8 w9) := bT (Below.refl w8.heap.size w8).drew b9
        have O9 := Lib.hid q9
        rw [hzs] at O9
        clear q9 b9
        refine hK.out _ _ ?_ (fun hHeld => ?_)
        · exact KX.out _ B9.out
        clear hK K
        refine wpAnyH_ready (rs := [7]) (by kernel_rfl) (by simp) ?_
        refine AllReadyH.cons rfl (fun K hK => ?_) AllReadyH.nil
        go_simp
        go_wp2_with (go_at_call 15; refine (E15.out zs _ _ _ v9 w9 (by omega) (own_below O8.out F9.out) O9.out).mono ?_; rintro e w10 ⟨rfl, b10⟩)
        have B10 := Lib.hid (bT B9.out b10)
        have F10 := Lib.hid (bT F9.out b10)
        clear b10
        refine hK.out _ _ ?_ (fun hHeld => ?_)
        · exact KX.out _ B10.out
        clear hK K
        refine wpAnyH_take (i := 8) (oi := _) (v := ?_) rfl (by kernel_rfl) (by kernel_rfl) (by kernel_rfl) (fun _ _ _ h => h) (Or.inl ⟨by rfl, ?_⟩) (by assumption) ?_
        rotate_left
        · first | (intro w hSw; (try dsimp only at hSw); go_simp; done) | (intro w hSw; (try dsimp only at hSw); go_simp; with_reducible rfl)
        try simp only [Act.put, List.setIfInBounds_toArray, List.set_cons_zero, List.set_cons_succ, List.getElem_toArray, List.getElem_cons_succ, List.getElem_cons_zero]
        refine wpAnyH_done (by kernel_rfl) ?_ _
        have I10 := Lib.hid (I8.out.below F10.out)
        clear B8 B9 F9 F10 O8 O9 I8 hzs
        obtain ⟨nz, hnz⟩ : ∃ nz, nz = zs.length := ⟨_, rfl⟩
        have HNZ := Lib.hid hnz
        rw [← hnz] at hnl ⊢
        clear hnz
        go_wp2_with fail
        go_loopw [10] (fun jv W => ∃ j : Nat, jv = .int .i64 (j : Int) ∧ j ≤ nz ∧ Hid (Below w6.heap.size w6 W) ∧ Hid (Below w10.heap.size w10 W)) (fun jv _ => nz - (intOf jv).toNat)
        case atStart => exact ⟨0, rfl, Nat.zero_le _, B10, Below.refl _ _⟩
        case round =>
          obtain ⟨j, rfl, hj, HBj, HCj⟩ := hrel
          have hj0 : (0 : Int) ≤ (j : Int) := by omega
          obtain ⟨wj, ewj⟩ : ∃ wj, wj = wr := ⟨_, rfl⟩
          rw [← ewj] at HBj HCj ⊢
          clear ewj
          by_cases hjn : j < nz
          · have hjn' : (j : Int) < (nz : Int) := by omega
            have hjz : j < zs.length := by rw [← HNZ.out]; exact hjn
            obtain ⟨c8, o8, rfl, i8⟩ : ∃ c o, sl8 = some ⟨c, o, none⟩ ∧ IntsAt w10 c o zs := by
              rcases I10.out with e | h
              · rw [e] at hjz; simp at hjz
              · exact h
            obtain ⟨x, hgx⟩ : ∃ x, x = zs.getD j 0 := ⟨_, rfl⟩
            have hx : x ∈ zs := by rw [hgx, show zs.getD j 0 = zs[j] by simp [hjz]]; exact List.getElem_mem hjz
            have KX4 : Hid (∀ W, Below wj.heap.size wj W → w1.heap.size < W.heap.size ∧ W.cell? ⟨w1.heap.size, 0, none⟩ = some (.slice sl n cap) ∧ W.cell? ⟨w1.heap.size, 1, none⟩ = some (.slice sl2 m cap2) ∧ c < W.heap.size ∧ W.cell? ⟨c, o + k, none⟩ = some (.int .i64 id) ∧ c8 < W.heap.size ∧ W.cell? ⟨c8, o8 + j, none⟩ = some (.int .i64 x)) := fun W hW => by
              obtain ⟨a1, a2, a3, a4, a5⟩ := KX.out W (bT HBj.out hW)
              exact ⟨a1, a2, a3, a4, a5, Nat.lt_of_lt_of_le i8.1 (bT HCj.out hW).size, by rw [hgx]; exact ((bT HCj.out hW).cell i8.1).trans (i8.2 j hjz)⟩
            clear hgx i8 hjz
            go_wp2_with fail
            refine wp_region_held_drew (S := fun W => w1.heap.size < W.heap.size ∧ W.cell? ⟨w1.heap.size, 0, none⟩ = some (.slice sl n cap) ∧ W.cell? ⟨w1.heap.size, 1, none⟩ = some (.slice sl2 m cap2) ∧ c < W.heap.size ∧ W.cell? ⟨c, o + k, none⟩ = some (.int .i64 id) ∧ c8 < W.heap.size ∧ W.cell? ⟨c8, o8 + j, none⟩ = some (.int .i64 x)) (by kernel_rfl) ?_ (fun hHeld => ?_)
            · exact KX4.out _ (Below.refl _ _).drew
            refine wpAnyH_take (i := 0) (oi := _) (v := ?_) rfl (by kernel_rfl) (by kernel_rfl) (by kernel_rfl) (fun _ _ _ h => h) (Or.inl ⟨by rfl, ?_⟩) (by assumption) ?_
            rotate_left
            · first | (intro w hSw; (try dsimp only at hSw); go_simp; done) | (intro w hSw; (try dsimp only at hSw); go_simp; with_reducible rfl)
            try simp only [Act.put, List.setIfInBounds_toArray, List.set_cons_zero, List.set_cons_succ, List.getElem_toArray, List.getElem_cons_zero]
            refine wpAnyH_take (i := 1) (oi := _) (v := ?_) rfl (by kernel_rfl) (by kernel_rfl) (by kernel_rfl) (fun _ _ _ h => h) (Or.inl ⟨by rfl, ?_⟩) (by assumption) ?_
            rotate_left
            · first | (intro w hSw; (try dsimp only at hSw); go_simp; done) | (intro w hSw; (try dsimp only at hSw); go_simp; with_reducible rfl)
            try simp only [Act.put, List.setIfInBounds_toArray, List.set_cons_zero, List.set_cons_succ, List.getElem_toArray, List.getElem_cons_succ, List.getElem_cons_zero]
            refine wpAnyH_take (i := 2) (oi := _) (v := ?_) rfl (by kernel_rfl) (by kernel_rfl) (by kernel_rfl) (fun _ _ _ h => h) (Or.inl ⟨by rfl, ?_⟩) (by assumption) ?_
            rotate_left
            · first | (intro w hSw; (try dsimp only at hSw); go_simp; done) | (intro w hSw; (try dsimp only at hSw); go_simp; with_reducible rfl)
            try simp only [Act.put, List.setIfInBounds_toArray, List.set_cons_zero, List.set_cons_succ, List.getElem_toArray, List.getElem_cons_succ, List.getElem_cons_zero]
            refine wpAnyH_take (i := 3) (oi := _) (v := ?_) rfl (by kernel_rfl) (by kernel_rfl) (by kernel_rfl) (fun _ _ _ h => h) (Or.inl ⟨by rfl, ?_⟩) (by assumption) ?_
            rotate_left
            · first | (intro w hSw; (try dsimp only at hSw); go_simp; done) | (intro w hSw; (try dsimp only at hSw); go_simp; with_reducible rfl)
            try simp only [Act.put, List.setIfInBounds_toArray, List.set_cons_zero, List.set_cons_succ, List.getElem_toArray, List.getElem_cons_succ, List.getElem_cons_zero]
            refine wpAnyH_take (i := 4) (oi := _) (v := ?_) rfl (by kernel_rfl) (by kernel_rfl) (by kernel_rfl) (fun _ _ _ h => h) (Or.inl ⟨by rfl, ?_⟩) (by assumption) ?_
            rotate_left
            · first | (intro w hSw; (try dsimp only at hSw); go_simp; done) | (intro w hSw; (try dsimp only at hSw); go_simp; with_reducible rfl)
            try simp only [Act.put, List.setIfInBounds_toArray, List.set_cons_zero, List.set_cons_succ, List.getElem_toArray, List.getElem_cons_succ, List.getElem_cons_zero]
            refine wpAnyH_take (i := 6) (oi := _) (v := ?_) rfl (by kernel_rfl) (by kernel_rfl) (by kernel_rfl) (fun _ _ _ h => h) (Or.inl ⟨by rfl, ?_⟩) (by assumption) ?_
            rotate_left
            · first | (intro w hSw; (try dsimp only at hSw); go_simp; done) | (intro w hSw; (try dsimp only at hSw); go_simp; with_reducible rfl)
            try simp only [Act.put, List.setIfInBounds_toArray, List.set_cons_zero, List.set_cons_succ, List.getElem_toArray, List.getElem_cons_succ, List.getElem_cons_zero]
            refine wpAnyH_take (i := 7) (oi := _) (v := ?_) rfl (by kernel_rfl) (by kernel_rfl) (by kernel_rfl) (fun _ _ _ h => h) (Or.inl ⟨by rfl, ?_⟩) (by assumption) ?_
            rotate_left
            · first | (intro w hSw; (try dsimp only at hSw); go_simp; done) | (intro w hSw; (try dsimp only at hSw); go_simp; with_reducible rfl)
            try simp only [Act.put, List.setIfInBounds_toArray, List.set_cons_zero, List.set_cons_succ, List.getElem_toArray, List.getElem_cons_succ, List.getElem_cons_zero]
            refine wpAnyH_take (i := 8) (oi := _) (v := ?_) rfl (by kernel_rfl) (by kernel_rfl) (by kernel_rfl) (fun _ _ _ h => h) (Or.inl ⟨by rfl, ?_⟩) (by assumption) ?_
            rotate_left
            · first | (intro w hSw; (try dsimp only at hSw); go_simp; done) | (intro w hSw; (try dsimp only at hSw); go_simp; with_reducible rfl)
            try simp only [Act.put, List.setIfInBounds_toArray, List.set_cons_zero, List.set_cons_succ, List.getElem_toArray, List.getElem_cons_succ, List.getElem_cons_zero]
            refine wpAnyH_take (i := 9) (oi := _) (v := ?_) rfl (by kernel_rfl) (by kernel_rfl) (by kernel_rfl) (fun _ _ _ h => h) (Or.inl ⟨by rfl, ?_⟩) (by assumption) ?_
            rotate_left
            · first | (intro w hSw; (try dsimp only at hSw); go_simp; done) | (intro w hSw; (try dsimp only at hSw); go_simp; with_reducible rfl)
            try simp only [Act.put, List.setIfInBounds_toArray, List.set_cons_zero, List.set_cons_succ, List.getElem_toArray, List.getElem_cons_succ, List.getElem_cons_zero]
            refine wpAnyH_ready (rs := [5]) (by kernel_rfl) (by simp) ?_
            refine AllReadyH.cons rfl (fun K hK => ?_) AllReadyH.nil
            go_simp
            go_wp2_with (go_at_call 18; refine (E18.out x _ (bT Y6.out HBj.out.drew)).mono ?_; rintro e w11 ⟨v11, rfl, q11, b11⟩)
            have F11 : Hid (Below wj.heap.size wj w11) := bT (Below.refl wj.heap.size wj).drew b11
            have O11 := Lib.hid q11
            clear q11 b11
            refine hK.out _ _ ?_ (fun hHeld => ?_)
            · exact KX4.out _ F11.out
            clear hK K
            refine wpAnyH_ready (rs := [10]) (by kernel_rfl) (by simp) ?_
            refine AllReadyH.cons rfl (fun K hK => ?_) AllReadyH.nil
            go_simp
            go_wp2_with (go_at_call 20; refine (E20.out (nearA rs ps x) _ v11 id w11 (by have := near_le rs ps x HT.out; omega) O11.out (NB.out x hx)).mono ?_; rintro e w12 ⟨rfl, rfl⟩)
            skip
            refine hK.out _ _ ?_ (fun hHeld => ?_)
            · exact KX4.out _ F11.out
            clear hK K
            refine wpAnyH_take (i := 11) (oi := _) (v := ?_) rfl (by kernel_rfl) (by kernel_rfl) (by kernel_rfl) (fun _ _ _ h => h) (Or.inl ⟨by rfl, ?_⟩) (by assumption) ?_
            rotate_left
            · first | (intro w hSw; (try dsimp only at hSw); go_simp; done) | (intro w hSw; (try dsimp only at hSw); go_simp; with_reducible rfl)
            try simp only [Act.put, List.setIfInBounds_toArray, List.set_cons_zero, List.set_cons_succ, List.getElem_toArray, List.getElem_cons_succ, List.getElem_cons_zero]
            refine wpAnyH_done (by kernel_rfl) ?_ _
            go_wp2
            go_roundw
            case rel => exact ⟨j + 1, by go_num, by omega, bT HBj.out F11.out, bT HCj.out F11.out⟩
            case measure => simp [intOf]; omega
          · have hjn' : ¬ (j : Int) < (nz : Int) := by omega
            clear HCj I10 NB HNZ
            go_wp2_with fail
            refine wp_region_held_drew (S := fun W => w1.heap.size < W.heap.size ∧ W.cell? ⟨w1.heap.size, 0, none⟩ = some (.slice sl n cap) ∧ W.cell? ⟨w1.heap.size, 1, none⟩ = some (.slice sl2 m cap2) ∧ c < W.heap.size ∧ W.cell? ⟨c, o + k, none⟩ = some (.int .i64 id)) (by kernel_rfl) ?_ (fun hHeld => ?_)
            · exact KX.out _ HBj.out.drew
            refine wpAnyH_take (i := 0) (oi := _) (v := ?_) rfl (by kernel_rfl) (by kernel_rfl) (by kernel_rfl) (fun _ _ _ h => h) (Or.inl ⟨by rfl, ?_⟩) (by assumption) ?_
            rotate_left
            · first | (intro w hSw; (try dsimp only at hSw); go_simp; done) | (intro w hSw; (try dsimp only at hSw); go_simp; with_reducible rfl)
            try simp only [Act.put, List.setIfInBounds_toArray, List.set_cons_zero, List.set_cons_succ, List.getElem_toArray, List.getElem_cons_zero]
            refine wpAnyH_take (i := 1) (oi := _) (v := ?_) rfl (by kernel_rfl) (by kernel_rfl) (by kernel_rfl) (fun _ _ _ h => h) (Or.inl ⟨by rfl, ?_⟩) (by assumption) ?_
            rotate_left
            · first | (intro w hSw; (try dsimp only at hSw); go_simp; done) | (intro w hSw; (try dsimp only at hSw); go_simp; with_reducible rfl)
            try simp only [Act.put, List.setIfInBounds_toArray, List.set_cons_zero, List.set_cons_succ, List.getElem_toArray, List.getElem_cons_succ, List.getElem_cons_zero]
            refine wpAnyH_take (i := 2) (oi := _) (v := ?_) rfl (by kernel_rfl) (by kernel_rfl) (by kernel_rfl) (fun _ _ _ h => h) (Or.inl ⟨by rfl, ?_⟩) (by assumption) ?_
            rotate_left
            · first | (intro w hSw; (try dsimp only at hSw); go_simp; done) | (intro w hSw; (try dsimp only at hSw); go_simp; with_reducible rfl)
            try simp only [Act.put, List.setIfInBounds_toArray, List.set_cons_zero, List.set_cons_succ, List.getElem_toArray, List.getElem_cons_succ, List.getElem_cons_zero]
            refine wpAnyH_take (i := 3) (oi := _) (v := ?_) rfl (by kernel_rfl) (by kernel_rfl) (by kernel_rfl) (fun _ _ _ h => h) (Or.inl ⟨by rfl, ?_⟩) (by assumption) ?_
            rotate_left
            · first | (intro w hSw; (try dsimp only at hSw); go_simp; done) | (intro w hSw; (try dsimp only at hSw); go_simp; with_reducible rfl)
            try simp only [Act.put, List.setIfInBounds_toArray, List.set_cons_zero, List.set_cons_succ, List.getElem_toArray, List.getElem_cons_succ, List.getElem_cons_zero]
            refine wpAnyH_take (i := 4) (oi := _) (v := ?_) rfl (by kernel_rfl) (by kernel_rfl) (by kernel_rfl) (fun _ _ _ h => h) (Or.inl ⟨by rfl, ?_⟩) (by assumption) ?_
            rotate_left
            · first | (intro w hSw; (try dsimp only at hSw); go_simp; done) | (intro w hSw; (try dsimp only at hSw); go_simp; with_reducible rfl)
            try simp only [Act.put, List.setIfInBounds_toArray, List.set_cons_zero, List.set_cons_succ, List.getElem_toArray, List.getElem_cons_succ, List.getElem_cons_zero]
            refine wpAnyH_take (i := 5) (oi := _) (v := ?_) rfl (by kernel_rfl) (by kernel_rfl) (by kernel_rfl) (fun _ _ _ h => h) (Or.inl ⟨by rfl, ?_⟩) (by assumption) ?_
            rotate_left
            · first | (intro w hSw; (try dsimp only at hSw); go_simp; done) | (intro w hSw; (try dsimp only at hSw); go_simp; with_reducible rfl)
            try simp only [Act.put, List.setIfInBounds_toArray, List.set_cons_zero, List.set_cons_succ, List.getElem_toArray, List.getElem_cons_succ, List.getElem_cons_zero]
            refine wpAnyH_ready (rs := [6]) (by kernel_rfl) (by simp) ?_
            refine AllReadyH.cons rfl (fun K hK => ?_) AllReadyH.nil
            go_simp
            go_wp2_with (go_at_call 21; refine (E21.out id top _ (bT Y6.out HBj.out.drew)).mono ?_; rintro e w13 ⟨v13, rfl, q13, b13⟩)
            have B13 := Lib.hid (bT HBj.out.drew b13)
            have O13 := Lib.hid q13
            clear q13 b13
            refine hK.out _ _ ?_ (fun hHeld => ?_)
            · exact KX.out _ B13.out
            clear hK K
            refine wpAnyH_take (i := 7) (oi := _) (v := ?_) rfl (by kernel_rfl) (by kernel_rfl) (by kernel_rfl) (fun _ _ _ h => h) (Or.inl ⟨by rfl, ?_⟩) (by assumption) ?_
            rotate_left
            · first | (intro w hSw; (try dsimp only at hSw); go_simp; done) | (intro w hSw; (try dsimp only at hSw); go_simp; with_reducible rfl)
            try simp only [Act.put, List.setIfInBounds_toArray, List.set_cons_zero, List.set_cons_succ, List.getElem_toArray, List.getElem_cons_succ, List.getElem_cons_zero]
            refine wpAnyH_done (by kernel_rfl) ?_ _
            have LA := Lib.hid (dom_le8 rs ps id top HT.out)
            have LT := Lib.hid (dom_begins rs ps id top HT.out)
            have hwt : IntKind.i64.wrap (top + 1) = top + 1 := by rw [IntKind.wrap_i64]; omega
            go_wp2_with fail
            refine wp_region_held_drew (S := fun W => w1.heap.size < W.heap.size ∧ W.cell? ⟨w1.heap.size, 0, none⟩ = some (.slice sl n cap) ∧ W.cell? ⟨w1.heap.size, 1, none⟩ = some (.slice sl2 m cap2) ∧ c < W.heap.size ∧ W.cell? ⟨c, o + k, none⟩ = some (.int .i64 id)) (by kernel_rfl) ?_ (fun hHeld => ?_)
            · exact KX.out _ B13.out.drew
            refine wpAnyH_take (i := 0) (oi := _) (v := ?_) rfl (by kernel_rfl) (by kernel_rfl) (by kernel_rfl) (fun _ _ _ h => h) (Or.inl ⟨by rfl, ?_⟩) (by assumption) ?_
            rotate_left
            · first | (intro w hSw; (try dsimp only at hSw); go_simp; done) | (intro w hSw; (try dsimp only at hSw); go_simp; with_reducible rfl)
            try simp only [Act.put, List.setIfInBounds_toArray, List.set_cons_zero, List.set_cons_succ, List.getElem_toArray, List.getElem_cons_zero]
            refine wpAnyH_take (i := 1) (oi := _) (v := ?_) rfl (by kernel_rfl) (by kernel_rfl) (by kernel_rfl) (fun _ _ _ h => h) (Or.inl ⟨by rfl, ?_⟩) (by assumption) ?_
            rotate_left
            · first | (intro w hSw; (try dsimp only at hSw); go_simp; done) | (intro w hSw; (try dsimp only at hSw); go_simp; with_reducible rfl)
            try simp only [Act.put, List.setIfInBounds_toArray, List.set_cons_zero, List.set_cons_succ, List.getElem_toArray, List.getElem_cons_succ, List.getElem_cons_zero]
            refine wpAnyH_take (i := 2) (oi := _) (v := ?_) rfl (by kernel_rfl) (by kernel_rfl) (by kernel_rfl) (fun _ _ _ h => h) (Or.inl ⟨by rfl, ?_⟩) (by assumption) ?_
            rotate_left
            · first | (intro w hSw; (try dsimp only at hSw); go_simp; done) | (intro w hSw; (try dsimp only at hSw); go_simp; with_reducible rfl)
            try simp only [Act.put, List.setIfInBounds_toArray, List.set_cons_zero, List.set_cons_succ, List.getElem_toArray, List.getElem_cons_succ, List.getElem_cons_zero]
            refine wpAnyH_take (i := 3) (oi := _) (v := ?_) rfl (by kernel_rfl) (by kernel_rfl) (by kernel_rfl) (fun _ _ _ h => h) (Or.inl ⟨by rfl, ?_⟩) (by assumption) ?_
            rotate_left
            · first | (intro w hSw; (try dsimp only at hSw); go_simp; done) | (intro w hSw; (try dsimp only at hSw); go_simp; with_reducible rfl)
            try simp only [Act.put, List.setIfInBounds_toArray, List.set_cons_zero, List.set_cons_succ, List.getElem_toArray, List.getElem_cons_succ, List.getElem_cons_zero]
            refine wpAnyH_take (i := 4) (oi := _) (v := ?_) rfl (by kernel_rfl) (by kernel_rfl) (by kernel_rfl) (fun _ _ _ h => h) (Or.inl ⟨by rfl, ?_⟩) (by assumption) ?_
            rotate_left
            · first | (intro w hSw; (try dsimp only at hSw); go_simp; done) | (intro w hSw; (try dsimp only at hSw); go_simp; with_reducible rfl)
            try simp only [Act.put, List.setIfInBounds_toArray, List.set_cons_zero, List.set_cons_succ, List.getElem_toArray, List.getElem_cons_succ, List.getElem_cons_zero]
            refine wpAnyH_take (i := 5) (oi := _) (v := ?_) rfl (by kernel_rfl) (by kernel_rfl) (by kernel_rfl) (fun _ _ _ h => h) (Or.inl ⟨by rfl, ?_⟩) (by assumption) ?_
            rotate_left
            · first | (intro w hSw; (try dsimp only at hSw); go_simp; done) | (intro w hSw; (try dsimp only at hSw); go_simp; with_reducible rfl)
            try simp only [Act.put, List.setIfInBounds_toArray, List.set_cons_zero, List.set_cons_succ, List.getElem_toArray, List.getElem_cons_succ, List.getElem_cons_zero]
            refine wpAnyH_take (i := 6) (oi := _) (v := ?_) rfl (by kernel_rfl) (by kernel_rfl) (by kernel_rfl) (fun _ _ _ h => h) (Or.inl ⟨by rfl, ?_⟩) (by assumption) ?_
            rotate_left
            · first | (intro w hSw; (try dsimp only at hSw); go_simp; done) | (intro w hSw; (try dsimp only at hSw); go_simp; with_reducible rfl)
            try simp only [Act.put, List.setIfInBounds_toArray, List.set_cons_zero, List.set_cons_succ, List.getElem_toArray, List.getElem_cons_succ, List.getElem_cons_zero]
            refine wpAnyH_ready (rs := [7]) (by kernel_rfl) (by simp) ?_
            refine AllReadyH.cons rfl (fun K hK => ?_) AllReadyH.nil
            go_simp
            go_wp2_with (go_at_call 21; refine (E21.out id (top + 1) _ (bT Y6.out B13.out.drew)).mono ?_; rintro e w14 ⟨v14, rfl, q14, b14⟩)
            have B14 := Lib.hid (bT B13.out.drew b14)
            have F14 : Hid (Below w13.heap.size w13 w14) := bT (Below.refl w13.heap.size w13).drew b14
            have O14 := Lib.hid q14
            clear q14 b14
            refine hK.out _ _ ?_ (fun hHeld => ?_)
            · exact KX.out _ B14.out
            clear hK K
            refine wpAnyH_take (i := 8) (oi := _) (v := ?_) rfl (by kernel_rfl) (by kernel_rfl) (by kernel_rfl) (fun _ _ _ h => h) (Or.inl ⟨by rfl, ?_⟩) (by assumption) ?_
            rotate_left
            · first | (intro w hSw; (try dsimp only at hSw); go_simp; done) | (intro w hSw; (try dsimp only at hSw); go_simp; with_reducible rfl)
            try simp only [Act.put, List.setIfInBounds_toArray, List.set_cons_zero, List.set_cons_succ, List.getElem_toArray, List.getElem_cons_succ, List.getElem_cons_zero]
            refine wpAnyH_done (by kernel_rfl) ?_ _
            have LB := Lib.hid (dom_le8 rs ps id (top + 1) HT.out)
            obtain ⟨sl13, cap13, rfl, hc13, hm13, i13⟩ := own_intsC O13.out
            obtain ⟨sl14, cap14, rfl, hc14, hm14, i14⟩ := own_intsC O14.out
            have hab : (domA rs ps id top).length ≤ (domA rs ps id (top + 1)).length := by
              have := congrArg List.length LT.out
              rw [List.length_take] at this
              omega
            have Q15 : Hid (∀ W, Below w14.heap.size w14 W → Calls Try.prog 15 #[.slice sl13 (domA rs ps id top).length cap13, .slice sl14 (domA rs ps id top).length cap14] W fun e w' => e = .returned (.bool true) ∧ Below W.heap.size W w') := fun W hW => by
              have h14 := i14.take (domA rs ps id top).length
              rw [LT.out] at h14
              exact lws_any sl13 sl14 cap13 cap14 _ W (by have := LA.out; unfold maxLen; omega) (i13.below (bT F14.out hW)) (h14.below hW)
            have la := LA.out
            have lb := LB.out
            clear i13 i14 LT LA LB O13 O14 F14 HBj B13
            unfold maxLen at hm13 hm14
            generalize (domA rs ps id top).length = na at *
            generalize (domA rs ps id (top + 1)).length = nb at *
            have hab' : ¬ (nb : Int) < (na : Int) := by omega
            have hac : (na : Int) ≤ (cap14 : Int) := by omega
            have hna0 : (0 : Int) ≤ (na : Int) := by omega
            go_wp2_with fail
            refine (Q15.out w14 (Below.refl _ _)).mono ?_
            rintro e w15 ⟨rfl, b15⟩
            have B15 := Lib.hid (bT B14.out b15)
            clear b15 Q15 B14
            go_wp2
            go_roundw
            case rel => exact ⟨k + 1, by go_num, by omega, B15⟩
            case measure => simp [intOf]; omega
      · have hkq' : ¬ (k : Int) < (q : Int) := by omega
        go_wp2
        go_ret
        exact ⟨rfl, bT D6.out HB.out⟩
  · rw [B_no hT]
    have hid0 : idsA rs ps = [] := if_neg (by rw [B_no hT]; simp)
    go_wp2_with fail
    refine (E14.out _ Y2.out).mono ?_
    rintro e w3 ⟨v3, rfl, o3, b3⟩
    rw [hid0] at o3
    obtain ⟨sl3, cap3, rfl, -⟩ := own_ints o3
    have D3 := Lib.hid (bT D2.out b3)
    clear b3 o3
    go_wp2
    go_ret
    exact ⟨rfl, D3.out⟩

end Go.Proofs.Ytoekggjacifppaa
