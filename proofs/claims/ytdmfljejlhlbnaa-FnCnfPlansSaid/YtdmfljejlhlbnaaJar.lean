/-
  A PLAN, DRAWN: l05Plan.
  A TABLE BEING DRAWN: a station turned; and what a drawn table is.
-/
import Derived.Test.YtdmfljejlhlbnaaJad
import Derived.Test.YtdmfljejlhlbnaaJao
import Derived.Test.YtdmfljejlhlbnaaJaq
namespace Go.Proofs.Ytdmfljejlhlbnaa
open Go.RowKit
set_option linter.unusedVariables false

theorem en_set : ∀ (pl : List LPl) (j : Nat) (h : j < pl.length) (x : Int), enCells (pl.set j (pl[j].1, x)) = (enCells pl).set (j * 2 + 1) (.int .i64 x)
  | p :: r, 0, _, x => by simp [enCells, encE]
  | p :: r, j + 1, h, x => by
    have hj : j < r.length := by simpa using h
    have := en_set r j hj x
    simp only [List.set_cons_succ, List.getElem_cons_succ]
    show encE p ++ enCells (r.set j (r[j].1, x)) = (encE p ++ enCells r).set ((j + 1) * 2 + 1) _
    rw [this, show (j + 1) * 2 + 1 = j * 2 + 1 + 2 by omega]
    rfl
/-- A channel written into a row of places. -/
theorem pl_put {W : World} {B : Nat} {v : Value} {pl : List LPl} (h : W.ownsRow B 34 2 v pl.length (enCells pl)) (j : Nat) (hj : j < pl.length) :
    ∃ g cap, v = .slice (some ⟨g, 0, none⟩) pl.length cap ∧ B ≤ g ∧ g < W.heap.size ∧ (∃ y, W.cell? ⟨g, j * 2 + 1, none⟩ = some (.int .i64 y)) ∧ W.frozen? ⟨g, j * 2 + 1, none⟩ = false ∧ ∀ x : Int, ∃ pl' : List LPl, pl'.length = pl.length ∧ (W.setCell ⟨g, j * 2 + 1, none⟩ (.int .i64 x)).ownsRow B 34 2 v pl'.length (enCells pl') := by
  obtain ⟨s, k, e, hp⟩ := own_pls h
  rcases hp with hp | ⟨g, rfl, pa, hg⟩
  · rw [hp] at hj; simp at hj
  · subst e
    refine ⟨g, k, rfl, hg, pa.lt, ⟨pl[j].2, ?_⟩, ?_, fun x => ⟨pl.set j (pl[j].1, x), by simp, ?_⟩⟩
    · have := (pa.cell j hj).2
      rwa [Nat.zero_add] at this
    · rcases h.2 with ⟨h, _⟩ | ⟨g', cap', cur, hv, _, hh, _⟩
      · cases h
      · cases hv; simp [World.frozen?, hh]
    · refine ⟨by rw [enCells_len], ?_⟩
      rcases h.2 with ⟨h, _⟩ | ⟨g', cap', cur, hv, hg', hh, hc, hm, hs, ht⟩
      · cases h
      · cases hv
        refine .inr ⟨g, k, cur.setIfInBounds (j * 2 + 1) (.int .i64 x), by simp, hg', heap_setCell_same W g (j * 2 + 1) cur 34 (.int .i64 x) hh, by simpa using hc, hm, by simpa using hs, ?_⟩
        rw [Array.toList_setIfInBounds, List.take_set, List.length_set, ht, en_set pl j hj x]

set_option maxRecDepth 100000 in
set_option maxHeartbeats 8000000 in
/-- spec.l05Plan. -/
theorem lplan_any (B b : Nat) (sl : Option Addr) (cap : Nat) (sl2 : Option Addr) (cap2 : Nat) (rs : List LSt) (ps : List LPr) (top : Int) (w : World) (hn : rs.length ≤ 14) (hs : SrcB B w b) (ht : ∀ W, Only b w W → Sts W sl rs ∧ Prs W sl2 ps) :
    Calls Try.prog 66 #[.pointer (some ⟨b, 0, none⟩), TV sl rs.length cap sl2 ps.length cap2, .int .i64 top] w fun e w' => ∃ v pl, e = .returned v ∧ List.length pl ≤ 401 ∧ w'.ownsRow w.heap.size 34 2 v pl.length (enCells pl) ∧ SrcB B w' b ∧ Only b w w' := by
  have hb : b < w.heap.size := Nat.lt_of_lt_of_le hs.1 hs.2.1
  have hBw : B ≤ w.heap.size := hs.2.1
  have HT0 := Lib.hid (TabAt.new w sl rs.length cap sl2 ps.length cap2)
  have hM : (w.alloc (.cells #[.slice sl rs.length cap, .slice sl2 ps.length cap2] 26)).heap.size = w.heap.size + 1 := by simp
  have BA := Lib.hid (bA0 w (.cells #[.slice sl rs.length cap, .slice sl2 ps.length cap2] 26))
  have KT : Hid (∀ W, Only b (w.alloc (.cells #[.slice sl rs.length cap, .slice sl2 ps.length cap2] 26)) W → w.heap.size < W.heap.size ∧ W.cell? ⟨w.heap.size, 0, none⟩ = some (.slice sl rs.length cap) ∧ W.cell? ⟨w.heap.size, 1, none⟩ = some (.slice sl2 ps.length cap2)) := fun W hW => by
    have : TabAt W w.heap.size sl rs.length cap sl2 ps.length cap2 := (hW.block w.heap.size HT0.out.lt (by omega)).trans HT0.out
    exact ⟨this.lt, this.cells⟩
  have OX : Hid (∀ W, Only b (w.alloc (.cells #[.slice sl rs.length cap, .slice sl2 ps.length cap2] 26)) W → Only b w W) := fun W hW => (Only.of_below BA.out).trans hW
  have S0 : Hid (SrcB B (w.alloc (.cells #[.slice sl rs.length cap, .slice sl2 ps.length cap2] 26)) b) := hs.below BA.out
  have SZ : Hid (∀ W, Only b (w.alloc (.cells #[.slice sl rs.length cap, .slice sl2 ps.length cap2] 26)) W → w.heap.size + 1 ≤ W.heap.size) := fun W hW => by have := hW.size; rw [hM] at this; exact this
  have GR : Hid (∀ W W' row, Only b (w.alloc (.cells #[.slice sl rs.length cap, .slice sl2 ps.length cap2] 26)) W → W.grownBy W' row → (∀ j, row = some j → w.heap.size + 1 ≤ j) → Only b (w.alloc (.cells #[.slice sl rs.length cap, .slice sl2 ps.length cap2] 26)) W') := fun W W' row h1 h2 h3 => h1.grown h2 (fun g hg => by rw [hM]; exact h3 g hg)
  have PS : Hid (∀ W g o x, Only b (w.alloc (.cells #[.slice sl rs.length cap, .slice sl2 ps.length cap2] 26)) W → w.heap.size + 1 ≤ g → Only b (w.alloc (.cells #[.slice sl rs.length cap, .slice sl2 ps.length cap2] 26)) (W.setCell ⟨g, o, none⟩ x)) := fun W g o x h1 h2 => h1.setHigh g (by rw [hM]; exact h2) o x
  have E1 : Hid (∀ W, Only b (w.alloc (.cells #[.slice sl rs.length cap, .slice sl2 ps.length cap2] 26)) W → SrcB B W b → Calls Try.prog 95 #[.pointer (some ⟨b, 0, none⟩), TV sl rs.length cap sl2 ps.length cap2] W fun e w' => ∃ v zs, e = .returned v ∧ List.length zs ≤ 15 ∧ w'.ownsRow W.heap.size 2 1 v zs.length (valsZ zs) ∧ SrcB B w' b ∧ Only b W w') := fun W h1 h2 => lids_any B b sl cap sl2 ps.length cap2 rs W hn h2 (fun W' h' => (ht W' ((OX.out W h1).trans h')).1)
  have E2 : Hid (∀ W s k zs, Only b (w.alloc (.cells #[.slice sl rs.length cap, .slice sl2 ps.length cap2] 26)) W → Ints W s zs → zs.length ≤ 15 → Calls Try.prog 45 #[TV sl rs.length cap sl2 ps.length cap2, .int .i64 top, .slice s zs.length k, .int .i64 300] W fun e w' => ∃ (x y z : Int) (ps : Option Addr) (pk : Nat) (pl : List LPl), e = .returned (.agg #[.int .i64 x, .slice ps pl.length pk, .int .i64 y, .int .i64 z]) ∧ pl.length ≤ 400 ∧ Pls w' ps pl ∧ Below W.heap.size W w') := fun W s k zs h1 h2 h3 => by
    obtain ⟨t1, t2⟩ := ht W (OX.out W h1)
    refine (spl_any sl cap sl2 cap2 s k rs ps top zs 300 W (by omega) (by omega) t1 t2 h2).mono ?_
    rintro e w' ⟨pv, rfl, sp, bl⟩
    obtain ⟨s', k', rfl, hp⟩ := sp.pls
    exact ⟨_, _, _, s', k', _, rfl, pfP_len rs ps top zs 300, hp, bl⟩
  clear hs ht HT0 BA
  generalize rs.length = n at *
  generalize ps.length = m at *
  go_enter Try.func66, Try.ntmps66
  go_wp2_with fail
  generalize w.alloc (.cells #[.slice sl n cap, .slice sl2 m cap2] 26) = wA at *
  have N0 : Hid (Only b wA wA.drew) := (Only.refl b wA).drew
  have T0 : Hid (SrcB B wA.drew b) := ⟨S0.out.1, S0.out.2.1, S0.out.2.2⟩
  have hM' : wA.drew.heap.size = w.heap.size + 1 := hM
  refine wp_region_held_drew (S := fun W => w.heap.size < W.heap.size ∧ W.cell? ⟨w.heap.size, 0, none⟩ = some (.slice sl n cap) ∧ W.cell? ⟨w.heap.size, 1, none⟩ = some (.slice sl2 m cap2)) (by kernel_rfl) ?_ (fun hHeld => ?_)
  · exact KT.out _ N0.out
  refine wpAnyH_take (i := 1) (oi := _) (v := ?_) rfl (by kernel_rfl) (by kernel_rfl) (by kernel_rfl) (fun _ _ _ h => h) (Or.inl ⟨by rfl, ?_⟩) (by assumption) ?_
  rotate_left
  · first | (intro w hSw; (try dsimp only at hSw); go_simp; done) | (intro w hSw; (try dsimp only at hSw); go_simp; with_reducible rfl)
  try simp only [Act.put, List.setIfInBounds_toArray, List.set_cons_zero, List.set_cons_succ, List.getElem_toArray, List.getElem_cons_succ, List.getElem_cons_zero]
  refine wpAnyH_take (i := 2) (oi := _) (v := ?_) rfl (by kernel_rfl) (by kernel_rfl) (by kernel_rfl) (fun _ _ _ h => h) (Or.inl ⟨by rfl, ?_⟩) (by assumption) ?_
  rotate_left
  · first | (intro w hSw; (try dsimp only at hSw); go_simp; done) | (intro w hSw; (try dsimp only at hSw); go_simp; with_reducible rfl)
  try simp only [Act.put, List.setIfInBounds_toArray, List.set_cons_zero, List.set_cons_succ, List.getElem_toArray, List.getElem_cons_succ, List.getElem_cons_zero]
  refine wpAnyH_take (i := 3) (oi := _) (v := ?_) rfl (by kernel_rfl) (by kernel_rfl) (by kernel_rfl) (fun _ _ _ h => h) (Or.inl ⟨by rfl, ?_⟩) (by assumption) ?_
  rotate_left
  · first | (intro w hSw; (try dsimp only at hSw); go_simp; done) | (intro w hSw; (try dsimp only at hSw); go_simp; with_reducible rfl)
  try simp only [Act.put, List.setIfInBounds_toArray, List.set_cons_zero, List.set_cons_succ, List.getElem_toArray, List.getElem_cons_succ, List.getElem_cons_zero]
  refine wpAnyH_take (i := 4) (oi := _) (v := ?_) rfl (by kernel_rfl) (by kernel_rfl) (by kernel_rfl) (fun _ _ _ h => h) (Or.inl ⟨by rfl, ?_⟩) (by assumption) ?_
  rotate_left
  · first | (intro w hSw; (try dsimp only at hSw); go_simp; done) | (intro w hSw; (try dsimp only at hSw); go_simp; with_reducible rfl)
  try simp only [Act.put, List.setIfInBounds_toArray, List.set_cons_zero, List.set_cons_succ, List.getElem_toArray, List.getElem_cons_succ, List.getElem_cons_zero]
  refine wpAnyH_ready (rs := [0, 5]) (by kernel_rfl) (by simp) ?_
  refine AllReadyH.cons rfl (fun K hK => ?_) (AllReadyH.cons rfl (fun K hK => ?_) AllReadyH.nil)
  · go_simp
    have NA0 := Lib.hid (N0.out.trans (Only.of_below (bA0 wA.drew (.cells #[] 34))))
    have SA0 := Lib.hid (T0.out.below (bA0 wA.drew (.cells #[] 34)))
    have O4 : Hid ((wA.drew.alloc (.cells #[] 34)).ownsRow (w.heap.size + 1) 34 2 (.slice (some ⟨wA.drew.heap.size, 0, none⟩) 0 0) ([] : List LPl).length (enCells [])) := own_mono (own_none2 wA.drew) (by omega)
    refine hK.out _ _ ?_ (fun hHeld => ?_)
    · exact KT.out _ NA0.out
    clear hK K
    refine wpAnyH_ready (rs := [5]) (by kernel_rfl) (by simp) ?_
    refine AllReadyH.cons rfl (fun K hK => ?_) AllReadyH.nil
    go_simp
    go_wp2_with (go_at_call 95; refine (E1.out _ NA0.out SA0.out).mono ?_; rintro e w5 ⟨v5, zs, rfl, hzs, o5, s5, n5⟩)
    have N5 := Lib.hid (NA0.out.trans n5)
    have S5 := Lib.hid s5
    obtain ⟨is, ik, rfl, ii⟩ := own_ints o5
    have O5 := Lib.hid o5
    have O4b := Lib.hid (own_only O4.out n5 (by omega))
    clear o5 n5 s5 ii
    refine hK.out _ _ ?_ (fun hHeld => ?_)
    · exact KT.out _ N5.out
    clear hK K
    refine wpAnyH_ready (rs := [6]) (by kernel_rfl) (by simp) ?_
    refine AllReadyH.cons rfl (fun K hK => ?_) AllReadyH.nil
    go_simp
    obtain ⟨is', ik', e5', ii5⟩ := own_ints O5.out
    cases e5'
    go_wp2_with (go_at_call 45; refine (E2.out _ is ik zs N5.out ii5 hzs).mono ?_; rintro e w6 ⟨x6, y6, z6, ps6, pk6, pl, rfl, hpl, hp6, b6⟩)
    have N6 := Lib.hid (N5.out.trans (Only.of_below b6))
    have S6 := Lib.hid (S5.out.below b6)
    have P6 := Lib.hid hp6
    have hfd : ∀ w : World, (Instr.field 70 (.agg #[.int .i64 x6, .slice ps6 pl.length pk6, .int .i64 y6, .int .i64 z6]) 1).run Try.prog w = .ok (.slice ps6 pl.length pk6) w := fun _ => by kernel_rfl
    have O6 := Lib.hid (own_below O4b.out b6)
    clear hp6 b6 ii5 O5
    refine hK.out _ _ ?_ (fun hHeld => ?_)
    · exact KT.out _ N6.out
    clear hK K
    refine wpAnyH_take (i := 7) (oi := _) (v := ?_) rfl (by kernel_rfl) (by kernel_rfl) (by kernel_rfl) (fun _ _ _ h => h) (Or.inl ⟨by rfl, ?_⟩) (by assumption) ?_
    rotate_left
    · first | (intro w hSw; (try dsimp only at hSw); go_simp; done) | (intro w hSw; (try dsimp only at hSw); go_simp; with_reducible rfl)
    try simp only [Act.put, List.setIfInBounds_toArray, List.set_cons_zero, List.set_cons_succ, List.getElem_toArray, List.getElem_cons_succ, List.getElem_cons_zero]
    clear hfd
    refine wpAnyH_ready (rs := [8]) (by kernel_rfl) (by simp) ?_
    refine AllReadyH.cons rfl (fun K hK => ?_) AllReadyH.nil
    have hz8 := SZ.out _ N6.out
    obtain ⟨v8, w8, hr8, ow8, gr8, lo8⟩ := appP O6.out pk6 P6.out (by omega) (by simp; omega)
    have N8 := Lib.hid (GR.out _ _ _ N6.out gr8 lo8)
    have S8 := Lib.hid (S6.out.grown gr8 (fun j hj => by have := lo8 j hj; omega))
    rw [List.nil_append] at ow8
    obtain ⟨vs8, vk8, rfl⟩ := own_v ow8
    have O8 := Lib.hid ow8
    have hr8' := hr8 27
    refine step_append_run _ rfl (.tmp 8) (.tmp 15) 27 27 rfl _ _ (by simp [Act.eval]) (by simp [Act.eval]) _ _ hr8' ?_
    refine hK.out _ _ ?_ (fun hHeld => ?_)
    · exact KT.out _ N8.out
    clear hK K
    try simp only [Act.put, List.setIfInBounds_toArray, List.set_cons_zero, List.set_cons_succ, List.getElem_toArray, List.getElem_cons_succ, List.getElem_cons_zero]
    clear hr8 hr8' gr8 lo8 ow8 
    refine wpAnyH_take (i := 9) (oi := _) (v := ?_) rfl (by kernel_rfl) (by kernel_rfl) (by kernel_rfl) (fun _ _ _ h => h) (Or.inl ⟨by rfl, ?_⟩) (by assumption) ?_
    rotate_left
    · first | (intro w hSw; (try dsimp only at hSw); go_simp; done) | (intro w hSw; (try dsimp only at hSw); go_simp; with_reducible rfl)
    try simp only [Act.put, List.setIfInBounds_toArray, List.set_cons_zero, List.set_cons_succ, List.getElem_toArray, List.getElem_cons_succ, List.getElem_cons_zero]
    refine wpAnyH_done (by kernel_rfl) ?_ _
    clear N5 S5 N6 S6 P6
    go_wp2_with fail
    refine (oneB_any B b 3 w8 (by decide) S8.out).mono ?_
    rintro e wa ⟨t, rfl, sa, oa⟩
    have SA := Lib.hid sa
    have NA := Lib.hid (N8.out.trans oa)
    have OA := Lib.hid (own_only O8.out oa (by omega))
    clear sa oa S8 N8 O8
    cases t with
    | false =>
      go_wp2_with fail
      refine (oneB_any B b 20 _ (by decide) SA.out).mono ?_
      rintro e wt ⟨t, rfl, st, ot⟩
      have ST := Lib.hid st
      have NT := Lib.hid (NA.out.trans ot)
      have OT := Lib.hid (own_only OA.out ot (by omega))
      clear st ot
      cases t with
      | true =>
        go_wp2_with fail
        refine (nB_lt B b 9 wt (by decide) (by decide) ST.out).mono ?_
        rintro e wu ⟨r, rfl, r0, r1, su, ou⟩
        have NU := Lib.hid (NT.out.trans ou)
        have SU := Lib.hid su
        have OU := Lib.hid (own_only OT.out ou (by omega))
        have hzu := SZ.out _ NU.out
        clear su ou ST NT OT
        obtain ⟨v9, w9, hr9, ow9, gr9, lo9⟩ := appP (OU.out.alloc (.cells #[.int .i64 r, .int .i64 2] 34)) 1 (pls_one (new_at wu _)) (by simp; omega) (by simp; omega)
        have N9 := Lib.hid (OX.out _ (GR.out _ _ _ (NU.out.trans (Only.of_below (bA0 wu (.cells #[.int .i64 r, .int .i64 2] 34)))) gr9 lo9))
        have S9 := Lib.hid ((SU.out.below (bA0 wu (.cells #[.int .i64 r, .int .i64 2] 34))).grown gr9 (fun j hj => by have := lo9 j hj; omega))
        have O9 := Lib.hid (own_mono ow9 (show w.heap.size ≤ w.heap.size + 1 by omega))
        have hr9' := hr9 27
        clear hr9 gr9 lo9 ow9
        go_wp2_with (at_builtin; refine Lib.wpList_append_run _ rfl _ _ _ _ rfl _ _ rfl rfl _ _ hr9' ?_)
        go_ret
        exact ⟨_, pl ++ [(r, 2)], rfl, by simp; omega, O9.out, S9.out, N9.out⟩
      | false =>
        have O9 := Lib.hid (own_mono OT.out (show w.heap.size ≤ w.heap.size + 1 by omega))
        have N9 := Lib.hid (OX.out _ NT.out)
        clear OT NT
        go_wp2
        go_ret
        exact ⟨_, pl, rfl, by omega, O9.out, ST.out, N9.out⟩
    | true =>
      by_cases hl0 : pl.length = 0
      · have hl0' : ¬ (pl.length : Int) > 0 := by omega
        clear hl0
        go_wp2_with fail
        refine (oneB_any B b 20 _ (by decide) SA.out).mono ?_
        rintro e wt ⟨t, rfl, st, ot⟩
        have ST := Lib.hid st
        have NT := Lib.hid (NA.out.trans ot)
        have OT := Lib.hid (own_only OA.out ot (by omega))
        clear st ot
        cases t with
        | true =>
          go_wp2_with fail
          refine (nB_lt B b 9 wt (by decide) (by decide) ST.out).mono ?_
          rintro e wu ⟨r, rfl, r0, r1, su, ou⟩
          have NU := Lib.hid (NT.out.trans ou)
          have SU := Lib.hid su
          have OU := Lib.hid (own_only OT.out ou (by omega))
          have hzu := SZ.out _ NU.out
          clear su ou ST NT OT
          obtain ⟨v9, w9, hr9, ow9, gr9, lo9⟩ := appP (OU.out.alloc (.cells #[.int .i64 r, .int .i64 2] 34)) 1 (pls_one (new_at wu _)) (by simp; omega) (by simp; omega)
          have N9 := Lib.hid (OX.out _ (GR.out _ _ _ (NU.out.trans (Only.of_below (bA0 wu (.cells #[.int .i64 r, .int .i64 2] 34)))) gr9 lo9))
          have S9 := Lib.hid ((SU.out.below (bA0 wu (.cells #[.int .i64 r, .int .i64 2] 34))).grown gr9 (fun j hj => by have := lo9 j hj; omega))
          have O9 := Lib.hid (own_mono ow9 (show w.heap.size ≤ w.heap.size + 1 by omega))
          have hr9' := hr9 27
          clear hr9 gr9 lo9 ow9
          go_wp2_with (at_builtin; refine Lib.wpList_append_run _ rfl _ _ _ _ rfl _ _ rfl rfl _ _ hr9' ?_)
          go_ret
          exact ⟨_, pl ++ [(r, 2)], rfl, by simp; omega, O9.out, S9.out, N9.out⟩
        | false =>
          have O9 := Lib.hid (own_mono OT.out (show w.heap.size ≤ w.heap.size + 1 by omega))
          have N9 := Lib.hid (OX.out _ NT.out)
          clear OT NT
          go_wp2
          go_ret
          exact ⟨_, pl, rfl, by omega, O9.out, ST.out, N9.out⟩
      · have hl0' : (pl.length : Int) > 0 := by omega
        clear hl0
        have hl1 : (1 : Int) ≤ (pl.length : Int) := by omega
        have hl2 : (pl.length : Int) ≤ 9223372036854775807 := by omega
        go_wp2_with fail
        refine (nB_lt B b (pl.length : Int) wa hl1 hl2 SA.out).mono ?_
        rintro e wb ⟨r, rfl, r0, r1, sb, ob⟩
        obtain ⟨j, rfl⟩ : ∃ j : Nat, r = (j : Int) := ⟨r.toNat, by omega⟩
        have hj : j < pl.length := by omega
        have SB := Lib.hid sb
        have NB := Lib.hid (NA.out.trans ob)
        have OB := Lib.hid (own_only OA.out ob (by omega))
        clear sb ob SA NA OA
        go_wp2_with fail
        refine (nB_lt B b 6 wb (by decide) (by decide) SB.out).mono ?_
        rintro e wc ⟨q, rfl, q0, q1, sc, oc⟩
        have SC := Lib.hid sc
        have NC := Lib.hid (NB.out.trans oc)
        have OC := Lib.hid (own_only OB.out oc (by omega))
        clear sc oc SB NB OB
        obtain ⟨g, gk, eg, hg, hgl, ⟨y, hy⟩, hfz, hput⟩ := pl_put OC.out j hj
        cases eg
        obtain ⟨pl', hpl', od⟩ := hput (2 + q)
        have OD := Lib.hid od
        have ND := Lib.hid (PS.out _ g (j * 2 + 1) (.int .i64 (2 + q)) NC.out hg)
        have SD := Lib.hid (SC.out.set g (by omega) (j * 2 + 1) (.int .i64 (2 + q)))
        have hpl4 : pl'.length ≤ 400 := by omega
        clear hput od SC NC OC
        clear hpl'
        go_wp2_with fail
        refine (oneB_any B b 20 _ (by decide) SD.out).mono ?_
        rintro e wt ⟨t, rfl, st, ot⟩
        have ST := Lib.hid st
        have NT := Lib.hid (ND.out.trans ot)
        have OT := Lib.hid (own_only OD.out ot (by omega))
        clear st ot
        cases t with
        | true =>
          go_wp2_with fail
          refine (nB_lt B b 9 wt (by decide) (by decide) ST.out).mono ?_
          rintro e wu ⟨r, rfl, r0, r1, su, ou⟩
          have NU := Lib.hid (NT.out.trans ou)
          have SU := Lib.hid su
          have OU := Lib.hid (own_only OT.out ou (by omega))
          have hzu := SZ.out _ NU.out
          clear su ou ST NT OT
          obtain ⟨v9, w9, hr9, ow9, gr9, lo9⟩ := appP (OU.out.alloc (.cells #[.int .i64 r, .int .i64 2] 34)) 1 (pls_one (new_at wu _)) (by simp; omega) (by simp; omega)
          have N9 := Lib.hid (OX.out _ (GR.out _ _ _ (NU.out.trans (Only.of_below (bA0 wu (.cells #[.int .i64 r, .int .i64 2] 34)))) gr9 lo9))
          have S9 := Lib.hid ((SU.out.below (bA0 wu (.cells #[.int .i64 r, .int .i64 2] 34))).grown gr9 (fun j hj => by have := lo9 j hj; omega))
          have O9 := Lib.hid (own_mono ow9 (show w.heap.size ≤ w.heap.size + 1 by omega))
          have hr9' := hr9 27
          clear hr9 gr9 lo9 ow9
          go_wp2_with (at_builtin; refine Lib.wpList_append_run _ rfl _ _ _ _ rfl _ _ rfl rfl _ _ hr9' ?_)
          go_ret
          exact ⟨_, pl' ++ [(r, 2)], rfl, by simp; omega, O9.out, S9.out, N9.out⟩
        | false =>
          have O9 := Lib.hid (own_mono OT.out (show w.heap.size ≤ w.heap.size + 1 by omega))
          have N9 := Lib.hid (OX.out _ NT.out)
          clear OT NT
          go_wp2
          go_ret
          exact ⟨_, pl', rfl, by omega, O9.out, ST.out, N9.out⟩
  · go_simp
    go_wp2_with (go_at_call 95; refine (E1.out _ N0.out T0.out).mono ?_; rintro e w5 ⟨v5, zs, rfl, hzs, o5, s5, n5⟩)
    have N5 := Lib.hid (N0.out.trans n5)
    have S5 := Lib.hid s5
    obtain ⟨is, ik, rfl, ii⟩ := own_ints o5
    have O5 := Lib.hid o5
    clear o5 n5 s5 ii
    refine hK.out _ _ ?_ (fun hHeld => ?_)
    · exact KT.out _ N5.out
    clear hK K
    refine wpAnyH_ready (rs := [0, 6]) (by kernel_rfl) (by simp) ?_
    refine AllReadyH.cons rfl (fun K hK => ?_) (AllReadyH.cons rfl (fun K hK => ?_) AllReadyH.nil)
    · go_simp
      have N5a := Lib.hid (N5.out.trans (Only.of_below (bA0 w5 (.cells #[] 34))))
      have S5a := Lib.hid (S5.out.below (bA0 w5 (.cells #[] 34)))
      have hz5 := SZ.out _ N5.out
      have O4 := Lib.hid (own_mono (own_none2 w5) hz5)
      have O5 := Lib.hid (World.ownsRow.alloc O5.out (.cells #[] 34))
      refine hK.out _ _ ?_ (fun hHeld => ?_)
      · exact KT.out _ N5a.out
      clear hK K
      refine wpAnyH_ready (rs := [6]) (by kernel_rfl) (by simp) ?_
      refine AllReadyH.cons rfl (fun K hK => ?_) AllReadyH.nil
      go_simp
      obtain ⟨is', ik', e5', ii5⟩ := own_ints O5.out
      cases e5'
      go_wp2_with (go_at_call 45; refine (E2.out _ is ik zs N5a.out ii5 hzs).mono ?_; rintro e w6 ⟨x6, y6, z6, ps6, pk6, pl, rfl, hpl, hp6, b6⟩)
      have N6 := Lib.hid (N5a.out.trans (Only.of_below b6))
      have S6 := Lib.hid (S5a.out.below b6)
      have P6 := Lib.hid hp6
      have hfd : ∀ w : World, (Instr.field 70 (.agg #[.int .i64 x6, .slice ps6 pl.length pk6, .int .i64 y6, .int .i64 z6]) 1).run Try.prog w = .ok (.slice ps6 pl.length pk6) w := fun _ => by kernel_rfl
      have O6 := Lib.hid (own_below O4.out b6)
      clear hp6 b6 ii5 O5
      refine hK.out _ _ ?_ (fun hHeld => ?_)
      · exact KT.out _ N6.out
      clear hK K
      refine wpAnyH_take (i := 7) (oi := _) (v := ?_) rfl (by kernel_rfl) (by kernel_rfl) (by kernel_rfl) (fun _ _ _ h => h) (Or.inl ⟨by rfl, ?_⟩) (by assumption) ?_
      rotate_left
      · first | (intro w hSw; (try dsimp only at hSw); go_simp; done) | (intro w hSw; (try dsimp only at hSw); go_simp; with_reducible rfl)
      try simp only [Act.put, List.setIfInBounds_toArray, List.set_cons_zero, List.set_cons_succ, List.getElem_toArray, List.getElem_cons_succ, List.getElem_cons_zero]
      clear hfd
      refine wpAnyH_ready (rs := [8]) (by kernel_rfl) (by simp) ?_
      refine AllReadyH.cons rfl (fun K hK => ?_) AllReadyH.nil
      have hz8 := SZ.out _ N6.out
      obtain ⟨v8, w8, hr8, ow8, gr8, lo8⟩ := appP O6.out pk6 P6.out (by omega) (by simp; omega)
      have N8 := Lib.hid (GR.out _ _ _ N6.out gr8 lo8)
      have S8 := Lib.hid (S6.out.grown gr8 (fun j hj => by have := lo8 j hj; omega))
      rw [List.nil_append] at ow8
      obtain ⟨vs8, vk8, rfl⟩ := own_v ow8
      have O8 := Lib.hid ow8
      have hr8' := hr8 27
      refine step_append_run _ rfl (.tmp 8) (.tmp 15) 27 27 rfl _ _ (by simp [Act.eval]) (by simp [Act.eval]) _ _ hr8' ?_
      refine hK.out _ _ ?_ (fun hHeld => ?_)
      · exact KT.out _ N8.out
      clear hK K
      try simp only [Act.put, List.setIfInBounds_toArray, List.set_cons_zero, List.set_cons_succ, List.getElem_toArray, List.getElem_cons_succ, List.getElem_cons_zero]
      clear hr8 hr8' gr8 lo8 ow8 
      refine wpAnyH_take (i := 9) (oi := _) (v := ?_) rfl (by kernel_rfl) (by kernel_rfl) (by kernel_rfl) (fun _ _ _ h => h) (Or.inl ⟨by rfl, ?_⟩) (by assumption) ?_
      rotate_left
      · first | (intro w hSw; (try dsimp only at hSw); go_simp; done) | (intro w hSw; (try dsimp only at hSw); go_simp; with_reducible rfl)
      try simp only [Act.put, List.setIfInBounds_toArray, List.set_cons_zero, List.set_cons_succ, List.getElem_toArray, List.getElem_cons_succ, List.getElem_cons_zero]
      refine wpAnyH_done (by kernel_rfl) ?_ _
      clear N5 S5 N6 S6 P6
      go_wp2_with fail
      refine (oneB_any B b 3 w8 (by decide) S8.out).mono ?_
      rintro e wa ⟨t, rfl, sa, oa⟩
      have SA := Lib.hid sa
      have NA := Lib.hid (N8.out.trans oa)
      have OA := Lib.hid (own_only O8.out oa (by omega))
      clear sa oa S8 N8 O8
      cases t with
      | false =>
        go_wp2_with fail
        refine (oneB_any B b 20 _ (by decide) SA.out).mono ?_
        rintro e wt ⟨t, rfl, st, ot⟩
        have ST := Lib.hid st
        have NT := Lib.hid (NA.out.trans ot)
        have OT := Lib.hid (own_only OA.out ot (by omega))
        clear st ot
        cases t with
        | true =>
          go_wp2_with fail
          refine (nB_lt B b 9 wt (by decide) (by decide) ST.out).mono ?_
          rintro e wu ⟨r, rfl, r0, r1, su, ou⟩
          have NU := Lib.hid (NT.out.trans ou)
          have SU := Lib.hid su
          have OU := Lib.hid (own_only OT.out ou (by omega))
          have hzu := SZ.out _ NU.out
          clear su ou ST NT OT
          obtain ⟨v9, w9, hr9, ow9, gr9, lo9⟩ := appP (OU.out.alloc (.cells #[.int .i64 r, .int .i64 2] 34)) 1 (pls_one (new_at wu _)) (by simp; omega) (by simp; omega)
          have N9 := Lib.hid (OX.out _ (GR.out _ _ _ (NU.out.trans (Only.of_below (bA0 wu (.cells #[.int .i64 r, .int .i64 2] 34)))) gr9 lo9))
          have S9 := Lib.hid ((SU.out.below (bA0 wu (.cells #[.int .i64 r, .int .i64 2] 34))).grown gr9 (fun j hj => by have := lo9 j hj; omega))
          have O9 := Lib.hid (own_mono ow9 (show w.heap.size ≤ w.heap.size + 1 by omega))
          have hr9' := hr9 27
          clear hr9 gr9 lo9 ow9
          go_wp2_with (at_builtin; refine Lib.wpList_append_run _ rfl _ _ _ _ rfl _ _ rfl rfl _ _ hr9' ?_)
          go_ret
          exact ⟨_, pl ++ [(r, 2)], rfl, by simp; omega, O9.out, S9.out, N9.out⟩
        | false =>
          have O9 := Lib.hid (own_mono OT.out (show w.heap.size ≤ w.heap.size + 1 by omega))
          have N9 := Lib.hid (OX.out _ NT.out)
          clear OT NT
          go_wp2
          go_ret
          exact ⟨_, pl, rfl, by omega, O9.out, ST.out, N9.out⟩
      | true =>
        by_cases hl0 : pl.length = 0
        · have hl0' : ¬ (pl.length : Int) > 0 := by omega
          clear hl0
          go_wp2_with fail
          refine (oneB_any B b 20 _ (by decide) SA.out).mono ?_
          rintro e wt ⟨t, rfl, st, ot⟩
          have ST := Lib.hid st
          have NT := Lib.hid (NA.out.trans ot)
          have OT := Lib.hid (own_only OA.out ot (by omega))
          clear st ot
          cases t with
          | true =>
            go_wp2_with fail
            refine (nB_lt B b 9 wt (by decide) (by decide) ST.out).mono ?_
            rintro e wu ⟨r, rfl, r0, r1, su, ou⟩
            have NU := Lib.hid (NT.out.trans ou)
            have SU := Lib.hid su
            have OU := Lib.hid (own_only OT.out ou (by omega))
            have hzu := SZ.out _ NU.out
            clear su ou ST NT OT
            obtain ⟨v9, w9, hr9, ow9, gr9, lo9⟩ := appP (OU.out.alloc (.cells #[.int .i64 r, .int .i64 2] 34)) 1 (pls_one (new_at wu _)) (by simp; omega) (by simp; omega)
            have N9 := Lib.hid (OX.out _ (GR.out _ _ _ (NU.out.trans (Only.of_below (bA0 wu (.cells #[.int .i64 r, .int .i64 2] 34)))) gr9 lo9))
            have S9 := Lib.hid ((SU.out.below (bA0 wu (.cells #[.int .i64 r, .int .i64 2] 34))).grown gr9 (fun j hj => by have := lo9 j hj; omega))
            have O9 := Lib.hid (own_mono ow9 (show w.heap.size ≤ w.heap.size + 1 by omega))
            have hr9' := hr9 27
            clear hr9 gr9 lo9 ow9
            go_wp2_with (at_builtin; refine Lib.wpList_append_run _ rfl _ _ _ _ rfl _ _ rfl rfl _ _ hr9' ?_)
            go_ret
            exact ⟨_, pl ++ [(r, 2)], rfl, by simp; omega, O9.out, S9.out, N9.out⟩
          | false =>
            have O9 := Lib.hid (own_mono OT.out (show w.heap.size ≤ w.heap.size + 1 by omega))
            have N9 := Lib.hid (OX.out _ NT.out)
            clear OT NT
            go_wp2
            go_ret
            exact ⟨_, pl, rfl, by omega, O9.out, ST.out, N9.out⟩
        · have hl0' : (pl.length : Int) > 0 := by omega
          clear hl0
          have hl1 : (1 : Int) ≤ (pl.length : Int) := by omega
          have hl2 : (pl.length : Int) ≤ 9223372036854775807 := by omega
          go_wp2_with fail
          refine (nB_lt B b (pl.length : Int) wa hl1 hl2 SA.out).mono ?_
          rintro e wb ⟨r, rfl, r0, r1, sb, ob⟩
          obtain ⟨j, rfl⟩ : ∃ j : Nat, r = (j : Int) := ⟨r.toNat, by omega⟩
          have hj : j < pl.length := by omega
          have SB := Lib.hid sb
          have NB := Lib.hid (NA.out.trans ob)
          have OB := Lib.hid (own_only OA.out ob (by omega))
          clear sb ob SA NA OA
          go_wp2_with fail
          refine (nB_lt B b 6 wb (by decide) (by decide) SB.out).mono ?_
          rintro e wc ⟨q, rfl, q0, q1, sc, oc⟩
          have SC := Lib.hid sc
          have NC := Lib.hid (NB.out.trans oc)
          have OC := Lib.hid (own_only OB.out oc (by omega))
          clear sc oc SB NB OB
          obtain ⟨g, gk, eg, hg, hgl, ⟨y, hy⟩, hfz, hput⟩ := pl_put OC.out j hj
          cases eg
          obtain ⟨pl', hpl', od⟩ := hput (2 + q)
          have OD := Lib.hid od
          have ND := Lib.hid (PS.out _ g (j * 2 + 1) (.int .i64 (2 + q)) NC.out hg)
          have SD := Lib.hid (SC.out.set g (by omega) (j * 2 + 1) (.int .i64 (2 + q)))
          have hpl4 : pl'.length ≤ 400 := by omega
          clear hput od SC NC OC
          clear hpl'
          go_wp2_with fail
          refine (oneB_any B b 20 _ (by decide) SD.out).mono ?_
          rintro e wt ⟨t, rfl, st, ot⟩
          have ST := Lib.hid st
          have NT := Lib.hid (ND.out.trans ot)
          have OT := Lib.hid (own_only OD.out ot (by omega))
          clear st ot
          cases t with
          | true =>
            go_wp2_with fail
            refine (nB_lt B b 9 wt (by decide) (by decide) ST.out).mono ?_
            rintro e wu ⟨r, rfl, r0, r1, su, ou⟩
            have NU := Lib.hid (NT.out.trans ou)
            have SU := Lib.hid su
            have OU := Lib.hid (own_only OT.out ou (by omega))
            have hzu := SZ.out _ NU.out
            clear su ou ST NT OT
            obtain ⟨v9, w9, hr9, ow9, gr9, lo9⟩ := appP (OU.out.alloc (.cells #[.int .i64 r, .int .i64 2] 34)) 1 (pls_one (new_at wu _)) (by simp; omega) (by simp; omega)
            have N9 := Lib.hid (OX.out _ (GR.out _ _ _ (NU.out.trans (Only.of_below (bA0 wu (.cells #[.int .i64 r, .int .i64 2] 34)))) gr9 lo9))
            have S9 := Lib.hid ((SU.out.below (bA0 wu (.cells #[.int .i64 r, .int .i64 2] 34))).grown gr9 (fun j hj => by have := lo9 j hj; omega))
            have O9 := Lib.hid (own_mono ow9 (show w.heap.size ≤ w.heap.size + 1 by omega))
            have hr9' := hr9 27
            clear hr9 gr9 lo9 ow9
            go_wp2_with (at_builtin; refine Lib.wpList_append_run _ rfl _ _ _ _ rfl _ _ rfl rfl _ _ hr9' ?_)
            go_ret
            exact ⟨_, pl' ++ [(r, 2)], rfl, by simp; omega, O9.out, S9.out, N9.out⟩
          | false =>
            have O9 := Lib.hid (own_mono OT.out (show w.heap.size ≤ w.heap.size + 1 by omega))
            have N9 := Lib.hid (OX.out _ NT.out)
            clear OT NT
            go_wp2
            go_ret
            exact ⟨_, pl', rfl, by omega, O9.out, ST.out, N9.out⟩
    · go_simp
      obtain ⟨is', ik', e5', ii5⟩ := own_ints O5.out
      cases e5'
      go_wp2_with (go_at_call 45; refine (E2.out _ is ik zs N5.out ii5 hzs).mono ?_; rintro e w6 ⟨x6, y6, z6, ps6, pk6, pl, rfl, hpl, hp6, b6⟩)
      have N6 := Lib.hid (N5.out.trans (Only.of_below b6))
      have S6 := Lib.hid (S5.out.below b6)
      have P6 := Lib.hid hp6
      have hfd : ∀ w : World, (Instr.field 70 (.agg #[.int .i64 x6, .slice ps6 pl.length pk6, .int .i64 y6, .int .i64 z6]) 1).run Try.prog w = .ok (.slice ps6 pl.length pk6) w := fun _ => by kernel_rfl
      clear hp6 b6 ii5 O5
      refine hK.out _ _ ?_ (fun hHeld => ?_)
      · exact KT.out _ N6.out
      clear hK K
      refine wpAnyH_take (i := 7) (oi := _) (v := ?_) rfl (by kernel_rfl) (by kernel_rfl) (by kernel_rfl) (fun _ _ _ h => h) (Or.inl ⟨by rfl, ?_⟩) (by assumption) ?_
      rotate_left
      · first | (intro w hSw; (try dsimp only at hSw); go_simp; done) | (intro w hSw; (try dsimp only at hSw); go_simp; with_reducible rfl)
      try simp only [Act.put, List.setIfInBounds_toArray, List.set_cons_zero, List.set_cons_succ, List.getElem_toArray, List.getElem_cons_succ, List.getElem_cons_zero]
      clear hfd
      refine wpAnyH_ready (rs := [0]) (by kernel_rfl) (by simp) ?_
      refine AllReadyH.cons rfl (fun K hK => ?_) AllReadyH.nil
      go_simp
      have N7 := Lib.hid (N6.out.trans (Only.of_below (bA0 w6 (.cells #[] 34))))
      have S7 := Lib.hid (S6.out.below (bA0 w6 (.cells #[] 34)))
      have P7 := Lib.hid (Pls.below P6.out (bA0 w6 (.cells #[] 34)))
      have hz6 := SZ.out _ N6.out
      have O6 := Lib.hid (own_mono (own_none2 w6) hz6)
      refine hK.out _ _ ?_ (fun hHeld => ?_)
      · exact KT.out _ N7.out
      clear hK K
      refine wpAnyH_ready (rs := [8]) (by kernel_rfl) (by simp) ?_
      refine AllReadyH.cons rfl (fun K hK => ?_) AllReadyH.nil
      have hz8 := SZ.out _ N7.out
      obtain ⟨v8, w8, hr8, ow8, gr8, lo8⟩ := appP O6.out pk6 P7.out (by omega) (by simp; omega)
      have N8 := Lib.hid (GR.out _ _ _ N7.out gr8 lo8)
      have S8 := Lib.hid (S7.out.grown gr8 (fun j hj => by have := lo8 j hj; omega))
      rw [List.nil_append] at ow8
      obtain ⟨vs8, vk8, rfl⟩ := own_v ow8
      have O8 := Lib.hid ow8
      have hr8' := hr8 27
      refine step_append_run _ rfl (.tmp 8) (.tmp 15) 27 27 rfl _ _ (by simp [Act.eval]) (by simp [Act.eval]) _ _ hr8' ?_
      refine hK.out _ _ ?_ (fun hHeld => ?_)
      · exact KT.out _ N8.out
      clear hK K
      try simp only [Act.put, List.setIfInBounds_toArray, List.set_cons_zero, List.set_cons_succ, List.getElem_toArray, List.getElem_cons_succ, List.getElem_cons_zero]
      clear hr8 hr8' gr8 lo8 ow8 
      refine wpAnyH_take (i := 9) (oi := _) (v := ?_) rfl (by kernel_rfl) (by kernel_rfl) (by kernel_rfl) (fun _ _ _ h => h) (Or.inl ⟨by rfl, ?_⟩) (by assumption) ?_
      rotate_left
      · first | (intro w hSw; (try dsimp only at hSw); go_simp; done) | (intro w hSw; (try dsimp only at hSw); go_simp; with_reducible rfl)
      try simp only [Act.put, List.setIfInBounds_toArray, List.set_cons_zero, List.set_cons_succ, List.getElem_toArray, List.getElem_cons_succ, List.getElem_cons_zero]
      refine wpAnyH_done (by kernel_rfl) ?_ _
      clear N5 S5 N6 S6 P6
      go_wp2_with fail
      refine (oneB_any B b 3 w8 (by decide) S8.out).mono ?_
      rintro e wa ⟨t, rfl, sa, oa⟩
      have SA := Lib.hid sa
      have NA := Lib.hid (N8.out.trans oa)
      have OA := Lib.hid (own_only O8.out oa (by omega))
      clear sa oa S8 N8 O8
      cases t with
      | false =>
        go_wp2_with fail
        refine (oneB_any B b 20 _ (by decide) SA.out).mono ?_
        rintro e wt ⟨t, rfl, st, ot⟩
        have ST := Lib.hid st
        have NT := Lib.hid (NA.out.trans ot)
        have OT := Lib.hid (own_only OA.out ot (by omega))
        clear st ot
        cases t with
        | true =>
          go_wp2_with fail
          refine (nB_lt B b 9 wt (by decide) (by decide) ST.out).mono ?_
          rintro e wu ⟨r, rfl, r0, r1, su, ou⟩
          have NU := Lib.hid (NT.out.trans ou)
          have SU := Lib.hid su
          have OU := Lib.hid (own_only OT.out ou (by omega))
          have hzu := SZ.out _ NU.out
          clear su ou ST NT OT
          obtain ⟨v9, w9, hr9, ow9, gr9, lo9⟩ := appP (OU.out.alloc (.cells #[.int .i64 r, .int .i64 2] 34)) 1 (pls_one (new_at wu _)) (by simp; omega) (by simp; omega)
          have N9 := Lib.hid (OX.out _ (GR.out _ _ _ (NU.out.trans (Only.of_below (bA0 wu (.cells #[.int .i64 r, .int .i64 2] 34)))) gr9 lo9))
          have S9 := Lib.hid ((SU.out.below (bA0 wu (.cells #[.int .i64 r, .int .i64 2] 34))).grown gr9 (fun j hj => by have := lo9 j hj; omega))
          have O9 := Lib.hid (own_mono ow9 (show w.heap.size ≤ w.heap.size + 1 by omega))
          have hr9' := hr9 27
          clear hr9 gr9 lo9 ow9
          go_wp2_with (at_builtin; refine Lib.wpList_append_run _ rfl _ _ _ _ rfl _ _ rfl rfl _ _ hr9' ?_)
          go_ret
          exact ⟨_, pl ++ [(r, 2)], rfl, by simp; omega, O9.out, S9.out, N9.out⟩
        | false =>
          have O9 := Lib.hid (own_mono OT.out (show w.heap.size ≤ w.heap.size + 1 by omega))
          have N9 := Lib.hid (OX.out _ NT.out)
          clear OT NT
          go_wp2
          go_ret
          exact ⟨_, pl, rfl, by omega, O9.out, ST.out, N9.out⟩
      | true =>
        by_cases hl0 : pl.length = 0
        · have hl0' : ¬ (pl.length : Int) > 0 := by omega
          clear hl0
          go_wp2_with fail
          refine (oneB_any B b 20 _ (by decide) SA.out).mono ?_
          rintro e wt ⟨t, rfl, st, ot⟩
          have ST := Lib.hid st
          have NT := Lib.hid (NA.out.trans ot)
          have OT := Lib.hid (own_only OA.out ot (by omega))
          clear st ot
          cases t with
          | true =>
            go_wp2_with fail
            refine (nB_lt B b 9 wt (by decide) (by decide) ST.out).mono ?_
            rintro e wu ⟨r, rfl, r0, r1, su, ou⟩
            have NU := Lib.hid (NT.out.trans ou)
            have SU := Lib.hid su
            have OU := Lib.hid (own_only OT.out ou (by omega))
            have hzu := SZ.out _ NU.out
            clear su ou ST NT OT
            obtain ⟨v9, w9, hr9, ow9, gr9, lo9⟩ := appP (OU.out.alloc (.cells #[.int .i64 r, .int .i64 2] 34)) 1 (pls_one (new_at wu _)) (by simp; omega) (by simp; omega)
            have N9 := Lib.hid (OX.out _ (GR.out _ _ _ (NU.out.trans (Only.of_below (bA0 wu (.cells #[.int .i64 r, .int .i64 2] 34)))) gr9 lo9))
            have S9 := Lib.hid ((SU.out.below (bA0 wu (.cells #[.int .i64 r, .int .i64 2] 34))).grown gr9 (fun j hj => by have := lo9 j hj; omega))
            have O9 := Lib.hid (own_mono ow9 (show w.heap.size ≤ w.heap.size + 1 by omega))
            have hr9' := hr9 27
            clear hr9 gr9 lo9 ow9
            go_wp2_with (at_builtin; refine Lib.wpList_append_run _ rfl _ _ _ _ rfl _ _ rfl rfl _ _ hr9' ?_)
            go_ret
            exact ⟨_, pl ++ [(r, 2)], rfl, by simp; omega, O9.out, S9.out, N9.out⟩
          | false =>
            have O9 := Lib.hid (own_mono OT.out (show w.heap.size ≤ w.heap.size + 1 by omega))
            have N9 := Lib.hid (OX.out _ NT.out)
            clear OT NT
            go_wp2
            go_ret
            exact ⟨_, pl, rfl, by omega, O9.out, ST.out, N9.out⟩
        · have hl0' : (pl.length : Int) > 0 := by omega
          clear hl0
          have hl1 : (1 : Int) ≤ (pl.length : Int) := by omega
          have hl2 : (pl.length : Int) ≤ 9223372036854775807 := by omega
          go_wp2_with fail
          refine (nB_lt B b (pl.length : Int) wa hl1 hl2 SA.out).mono ?_
          rintro e wb ⟨r, rfl, r0, r1, sb, ob⟩
          obtain ⟨j, rfl⟩ : ∃ j : Nat, r = (j : Int) := ⟨r.toNat, by omega⟩
          have hj : j < pl.length := by omega
          have SB := Lib.hid sb
          have NB := Lib.hid (NA.out.trans ob)
          have OB := Lib.hid (own_only OA.out ob (by omega))
          clear sb ob SA NA OA
          go_wp2_with fail
          refine (nB_lt B b 6 wb (by decide) (by decide) SB.out).mono ?_
          rintro e wc ⟨q, rfl, q0, q1, sc, oc⟩
          have SC := Lib.hid sc
          have NC := Lib.hid (NB.out.trans oc)
          have OC := Lib.hid (own_only OB.out oc (by omega))
          clear sc oc SB NB OB
          obtain ⟨g, gk, eg, hg, hgl, ⟨y, hy⟩, hfz, hput⟩ := pl_put OC.out j hj
          cases eg
          obtain ⟨pl', hpl', od⟩ := hput (2 + q)
          have OD := Lib.hid od
          have ND := Lib.hid (PS.out _ g (j * 2 + 1) (.int .i64 (2 + q)) NC.out hg)
          have SD := Lib.hid (SC.out.set g (by omega) (j * 2 + 1) (.int .i64 (2 + q)))
          have hpl4 : pl'.length ≤ 400 := by omega
          clear hput od SC NC OC
          clear hpl'
          go_wp2_with fail
          refine (oneB_any B b 20 _ (by decide) SD.out).mono ?_
          rintro e wt ⟨t, rfl, st, ot⟩
          have ST := Lib.hid st
          have NT := Lib.hid (ND.out.trans ot)
          have OT := Lib.hid (own_only OD.out ot (by omega))
          clear st ot
          cases t with
          | true =>
            go_wp2_with fail
            refine (nB_lt B b 9 wt (by decide) (by decide) ST.out).mono ?_
            rintro e wu ⟨r, rfl, r0, r1, su, ou⟩
            have NU := Lib.hid (NT.out.trans ou)
            have SU := Lib.hid su
            have OU := Lib.hid (own_only OT.out ou (by omega))
            have hzu := SZ.out _ NU.out
            clear su ou ST NT OT
            obtain ⟨v9, w9, hr9, ow9, gr9, lo9⟩ := appP (OU.out.alloc (.cells #[.int .i64 r, .int .i64 2] 34)) 1 (pls_one (new_at wu _)) (by simp; omega) (by simp; omega)
            have N9 := Lib.hid (OX.out _ (GR.out _ _ _ (NU.out.trans (Only.of_below (bA0 wu (.cells #[.int .i64 r, .int .i64 2] 34)))) gr9 lo9))
            have S9 := Lib.hid ((SU.out.below (bA0 wu (.cells #[.int .i64 r, .int .i64 2] 34))).grown gr9 (fun j hj => by have := lo9 j hj; omega))
            have O9 := Lib.hid (own_mono ow9 (show w.heap.size ≤ w.heap.size + 1 by omega))
            have hr9' := hr9 27
            clear hr9 gr9 lo9 ow9
            go_wp2_with (at_builtin; refine Lib.wpList_append_run _ rfl _ _ _ _ rfl _ _ rfl rfl _ _ hr9' ?_)
            go_ret
            exact ⟨_, pl' ++ [(r, 2)], rfl, by simp; omega, O9.out, S9.out, N9.out⟩
          | false =>
            have O9 := Lib.hid (own_mono OT.out (show w.heap.size ≤ w.heap.size + 1 by omega))
            have N9 := Lib.hid (OX.out _ NT.out)
            clear OT NT
            go_wp2
            go_ret
            exact ⟨_, pl', rfl, by omega, O9.out, ST.out, N9.out⟩
end Go.Proofs.Ytdmfljejlhlbnaa
namespace Go.Proofs.Ytdmfljejlhlbnaa
open Go.RowKit
set_option linter.unusedVariables false

theorem own3_set {C g n cap : Nat} {e : TypeId} {xs : List Value} {W : World} (h : W.ownsRow C e 3 (.slice (some ⟨g, 0, none⟩) n cap) n xs) (i : Nat) (x : Value) : (W.setCell ⟨g, i, none⟩ x).ownsRow C e 3 (.slice (some ⟨g, 0, none⟩) n cap) n (xs.set i x) := by
  refine ⟨by rw [List.length_set]; exact h.1, ?_⟩
  rcases h.2 with ⟨h, _⟩ | ⟨g', cap', cur, hv, hg, hh, hc, hm, hs, ht⟩
  · cases h
  · cases hv
    refine .inr ⟨g, cap, cur.setIfInBounds i x, rfl, hg, heap_setCell_same W g i cur e x hh, hc, hm, by simpa using hs, ?_⟩
    rw [Array.toList_setIfInBounds, List.take_set, ht]
theorem stC_set (rs : List LSt) (j : Nat) (h : j < rs.length) (r : LSt) : stC (rs.set j r) = (((stC rs).set (j * 3) (.int .i64 r.1)).set (j * 3 + 1) (.int .i64 r.2.1)).set (j * 3 + 2) r.2.2.1 := by
  induction rs generalizing j with
  | nil => simp at h
  | cons a t ih =>
    cases j with
    | zero => simp [stC]
    | succ j =>
      have h' : j < t.length := by simpa using h
      have := ih j h'
      unfold stC at this ⊢
      rw [List.set_cons_succ, List.flatMap_cons, List.flatMap_cons, this]
      rw [show (j + 1) * 3 = j * 3 + 3 by omega, show j * 3 + 3 + 1 = (j * 3 + 1) + 3 by omega, show j * 3 + 3 + 2 = (j * 3 + 2) + 3 by omega]
      rfl
theorem set_selfS {l : List Value} {i : Nat} {v : Value} (h : l[i]? = some v) : l.set i v = l := by
  obtain ⟨hi, e⟩ := List.getElem?_eq_some_iff.1 h
  rw [← e]
  exact List.set_getElem_self hi
theorem stC_id (rs : List LSt) (j : Nat) (h : j < rs.length) (x : Int) : stC (rs.set j (x, rs[j].2)) = (stC rs).set (j * 3) (.int .i64 x) := by
  obtain ⟨a, b, c⟩ := stC_at rs j h
  rw [stC_set rs j h]
  dsimp only
  rw [set_selfS (l := (stC rs).set (j * 3) _) (i := j * 3 + 1) (by rw [List.getElem?_set_ne (by omega)]; exact b), set_selfS (by rw [List.getElem?_set_ne (by omega)]; exact c)]
theorem stC_sc (rs : List LSt) (j : Nat) (h : j < rs.length) (x : Int) : stC (rs.set j (rs[j].1, x, rs[j].2.2)) = (stC rs).set (j * 3 + 1) (.int .i64 x) := by
  obtain ⟨a, b, c⟩ := stC_at rs j h
  rw [stC_set rs j h]
  dsimp only
  rw [set_selfS a, set_selfS (by rw [List.getElem?_set_ne (by omega)]; exact c)]
theorem stC_dom (rs : List LSt) (j : Nat) (h : j < rs.length) (d : Value) (zs : List Int) : stC (rs.set j (rs[j].1, rs[j].2.1, d, zs)) = (stC rs).set (j * 3 + 2) d := by
  obtain ⟨a, b, c⟩ := stC_at rs j h
  rw [stC_set rs j h]
  dsimp only
  rw [set_selfS a, set_selfS b]

section
variable {w : World} {b tb : Nat} {v1 v2 : Value} {rs : List LSt} {ps : List LPr} {W W' : World}
/-- A number of a station turned. -/
theorem TI.setI {g n cap : Nat} (h : TI w b tb (.slice (some ⟨g, 0, none⟩) n cap) v2 rs ps W) (j : Nat) (hj : j < rs.length) (o : Nat) (x : Value) (r : LSt) (hr : r.2.2 = rs[j].2.2) (hs : stC (rs.set j r) = (stC rs).set (j * 3 + o) x) :
    TI w b tb (.slice (some ⟨g, 0, none⟩) n cap) v2 (rs.set j r) ps (W.setCell ⟨g, j * 3 + o, none⟩ x) := by
  have hn : n = rs.length := by
    rcases h.st.2 with ⟨e, _⟩ | ⟨_, _, _, e, _⟩
    · cases e
    · cases e; rfl
  subst hn
  have hgl : tb + 1 ≤ g := own_base h.st rfl
  have hb := h.hb
  have ht := h.htb
  have hmem : ∀ r' ∈ rs.set j r, ∃ r0 ∈ rs, r0.2.2 = r'.2.2 := fun r' hr' => by
    obtain ⟨i, hi, rfl⟩ := List.getElem_of_mem hr'
    rw [List.length_set] at hi
    rw [List.getElem_set]
    split
    · exact ⟨rs[j], List.getElem_mem hj, hr.symm⟩
    · exact ⟨rs[i], List.getElem_mem hi, rfl⟩
  refine ⟨hb, ht, h.src.set g (by omega) _ _, h.fr.setHigh g (by omega) _ _, (Below.heap_setCell _ _ _ _ (by show tb ≠ g; omega)).trans h.tab, (Below.heap_setCell _ _ _ _ (by show w.heap.size ≠ g; omega)).trans h.rc, ?_, own_keep h.pr (fun i hi => Below.heap_setCell _ _ _ _ (by show i ≠ g; intro e; subst e; exact own_ne h.pr h.st (by decide) hi rfl)), fun r' hr' => ?_, ?_⟩
  · rw [List.length_set, hs]
    exact own3_set h.st _ _
  · obtain ⟨r0, h0, e⟩ := hmem r' hr'
    have := h.dom r0 h0
    rw [e] at this
    exact own_keep this (fun i hi => Below.heap_setCell _ _ _ _ (by show i ≠ g; intro e; subst e; exact own_ne this h.st (by decide) hi rfl))
  · have e : (rs.set j r).map (fun r => r.2.2.1.ownBlock) = rs.map (fun r => r.2.2.1.ownBlock) := by
      rw [List.map_set, hr]
      apply List.ext_getElem
      · simp
      · intro i h1 h2
        rw [List.getElem_set]
        split
        · rename_i e; subst e; simp
        · rfl
    have := h.ap
    rw [← List.pairwise_map (f := fun r : LSt => r.2.2.1.ownBlock) (R := fun a c => a ≠ c)] at this ⊢
    rwa [e]
/-- A station's domain turned. -/
theorem TI.setD {g n cap : Nat} (h : TI w b tb (.slice (some ⟨g, 0, none⟩) n cap) v2 rs ps W) (j : Nat) (hj : j < rs.length) (d : Value) (zs : List Int) {row : Option Nat} (hg : W.grownBy W' row) (hrow : ∀ k, row = some k → rs[j].2.2.1.ownBlock = some k) (ho : W'.ownsRow (tb + 1) 2 1 d zs.length (valsZ zs)) (hd : ∃ k, d.ownBlock = some k ∧ (rs[j].2.2.1.ownBlock = some k ∨ W.heap.size ≤ k)) :
    TI w b tb (.slice (some ⟨g, 0, none⟩) n cap) v2 (rs.set j (rs[j].1, rs[j].2.1, d, zs)) ps (W'.setCell ⟨g, j * 3 + 2, none⟩ d) := by
  have hn : n = rs.length := by
    rcases h.st.2 with ⟨e, _⟩ | ⟨_, _, _, e, _⟩
    · cases e
    · cases e; rfl
  subst hn
  have hgl : tb + 1 ≤ g := own_base h.st rfl
  have hb := h.hb
  have ht := h.htb
  have hdj := h.dom rs[j] (List.getElem_mem hj)
  have keep : ∀ k, k < W.heap.size → rs[j].2.2.1.ownBlock ≠ some k → W'.heap[k]? = W.heap[k]? := fun k hk hne => hg.block k hk (fun e => hne (hrow k e.symm))
  have hlo : ∀ k, row = some k → tb + 1 ≤ k := fun k hk => own_base hdj (hrow k hk)
  have hne : ∀ i (hi : i < rs.length), i ≠ j → rs[i].2.2.1.ownBlock ≠ rs[j].2.2.1.ownBlock := fun i hi hij => by
    have := List.pairwise_iff_getElem.1 h.ap
    rcases Nat.lt_or_gt_of_ne hij with l | l
    · exact this i j hi hj l
    · exact (this j i hj hi l).symm
  have st' : W'.ownsRow (tb + 1) 93 3 (.slice (some ⟨g, 0, none⟩) rs.length cap) rs.length (stC rs) := own_keep h.st (fun k hk => keep k (h.st.lt k hk).2 (fun e => own_ne hdj h.st (by decide) e hk))
  have hi' : ∀ i (hi : i < rs.length), i ≠ j → W'.ownsRow (tb + 1) 2 1 rs[i].2.2.1 rs[i].2.2.2.length (valsZ rs[i].2.2.2) := fun i hi hij => own_keep (h.dom rs[i] (List.getElem_mem hi)) (fun k hk => keep k ((h.dom rs[i] (List.getElem_mem hi)).lt k hk).2 (fun e => hne i hi hij (hk.trans e.symm)))
  refine ⟨hb, ht, (h.src.grown hg (fun k hk => by have := hlo k hk; omega)).set g (by omega) _ _, (h.fr.grown hg (fun k hk => by have := hlo k hk; omega)).setHigh g (by omega) _ _, (Below.heap_setCell _ _ _ _ (by show tb ≠ g; omega)).trans ((keep tb h.lt (fun e => by have := own_base hdj e; omega)).trans h.tab), (Below.heap_setCell _ _ _ _ (by show w.heap.size ≠ g; omega)).trans ((keep _ h.rlt (fun e => by have := own_base hdj e; omega)).trans h.rc), ?_, own_keep h.pr (fun i hi => (Below.heap_setCell _ _ _ _ (by show i ≠ g; intro e; subst e; exact own_ne h.pr h.st (by decide) hi rfl)).trans (keep i (h.pr.lt i hi).2 (fun e => own_ne h.pr hdj (by decide) hi e))), fun r' hr' => ?_, ?_⟩
  · rw [List.length_set, stC_dom rs j hj]
    exact own3_set st' _ _
  · have key : ∀ r0 : LSt, W'.ownsRow (tb + 1) 2 1 r0.2.2.1 r0.2.2.2.length (valsZ r0.2.2.2) → (W'.setCell ⟨g, j * 3 + 2, none⟩ d).ownsRow (tb + 1) 2 1 r0.2.2.1 r0.2.2.2.length (valsZ r0.2.2.2) := fun r0 h0 => own_keep h0 (fun i hi => Below.heap_setCell _ _ _ _ (by show i ≠ g; intro e; subst e; exact own_ne h0 st' (by decide) hi rfl))
    obtain ⟨i, hi, rfl⟩ := List.getElem_of_mem hr'
    rw [List.length_set] at hi
    rw [List.getElem_set]
    split
    · exact key _ ho
    · rename_i e; exact key _ (hi' i hi (fun e' => e e'.symm))
  · rw [List.pairwise_iff_getElem]
    intro i k hi hk hik
    rw [List.length_set] at hi hk
    rw [List.getElem_set, List.getElem_set]
    have low : ∀ i (hi : i < rs.length) m, rs[i].2.2.1.ownBlock = some m → m < W.heap.size := fun i hi m hm => ((h.dom rs[i] (List.getElem_mem hi)).lt m hm).2
    obtain ⟨m, hm, hm2⟩ := hd
    have ne' : ∀ i (hi : i < rs.length), i ≠ j → rs[i].2.2.1.ownBlock ≠ d.ownBlock := fun i hi hij e2 => by
      rw [hm] at e2
      rcases hm2 with e3 | e3
      · exact hne i hi hij (e2.trans e3.symm)
      · have := low i hi m e2; omega
    split
    · rename_i e1
      split
      · rename_i e2; omega
      · rename_i e2; exact (ne' k hk (fun e => e2 e.symm)).symm
    · rename_i e1
      split
      · exact ne' i hi (fun e => e1 e.symm)
      · exact List.pairwise_iff_getElem.1 h.ap i k hi hk hik
/-- What a drawn table is. -/
def LtPost (b : Nat) (w : World) (e : Ending) (w' : World) : Prop :=
  ∃ sl cap sl2 cap2 rs ps, e = .returned (TV sl (List.length rs) cap sl2 (List.length ps) cap2) ∧ rs.length ≤ 14 ∧ ps.length ≤ 41 ∧ (∀ p ∈ ps, WfP p) ∧ Src w' b ∧ Only b w w' ∧ ∀ W', w'.heap.size ≤ W'.heap.size → (∀ k, w.heap.size ≤ k → k < w'.heap.size → W'.heap[k]? = w'.heap[k]?) → Sts W' sl rs ∧ Prs W' sl2 ps
end

end Go.Proofs.Ytdmfljejlhlbnaa
