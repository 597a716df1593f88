/-
  A TOP AND IDS, DRAWN: l05Top, l05Ids.
  A PLAN, DRAWN: l05Plan.
  A TABLE, A TOP, A PLAN AND AN ID, DRAWN: DrawPlanAdd.
  PLACES COPIED AND COMPARED: lwPlaces, lwPlan.
  THE LAW 3: the walk.
-/
import Derived.Test.YtdmfljejlhlbnaaSk
import Derived.Test.YtdmfljejlhlbnaaPa
import Derived.Test.YtdmfljejlhlbnaaXi
import Derived.Test.YtdmfljejlhlbnaaZk
namespace Go.Proofs.Ytdmfljejlhlbnaa
open Go.RowKit
set_option linter.unusedVariables false

set_option maxHeartbeats 1000000 in
/-- spec.l05Top. -/
theorem top_any (B b : Nat) (w : World) (hs : SrcB B w b) :
    Calls Try.prog 65 #[.pointer (some ⟨b, 0, none⟩)] w fun e w' => ∃ v : Int, e = .returned (.int .i64 v) ∧ SrcB B w' b ∧ Only b w w' := by
  have HS := Lib.hid hs
  clear hs
  go_enter Try.func65, Try.ntmps65
  go_wp2_with fail
  refine (oneB_any B b 12 _ (by decide) HS.out).mono ?_
  rintro e w1 ⟨t, rfl, s1, o1⟩
  have H1 : Hid (SrcB B w1 b ∧ Only b w w1) := ⟨s1, o1⟩
  clear s1 o1 HS
  cases t with
  | true =>
    go_wp2_with fail
    refine (edgeB_any B b _ H1.out.1).mono ?_
    rintro e w2 ⟨v, rfl, -, s2, o2⟩
    have H2 : Hid (SrcB B w2 b ∧ Only b w w2) := ⟨s2, H1.out.2.trans o2⟩
    clear s2 o2 H1
    go_wp2
    go_ret
    exact ⟨_, rfl, H2.out⟩
  | false =>
    go_wp2_with fail
    refine (nB_lt B b 6 _ (by decide) (by decide) H1.out.1).mono ?_
    rintro e w2 ⟨r, rfl, r1, r2, s2, o2⟩
    have H2 : Hid (SrcB B w2 b ∧ Only b w w2) := ⟨s2, H1.out.2.trans o2⟩
    clear s2 o2 H1
    go_wp2
    go_ret
    exact ⟨_, rfl, H2.out⟩

set_option maxRecDepth 100000 in
set_option maxHeartbeats 4000000 in
/-- spec.l05Ids. -/
theorem lids_any (B b : Nat) (sl : Option Addr) (cap : Nat) (sl2 : Option Addr) (m cap2 : Nat) (rs : List LSt) (w : World) (hn : rs.length ≤ 14) (hs : SrcB B w b) (ht : ∀ W, Only b w W → Sts W sl rs) :
    Calls Try.prog 95 #[.pointer (some ⟨b, 0, none⟩), TV sl rs.length cap sl2 m cap2] w fun e w' => ∃ v zs, e = .returned v ∧ List.length zs ≤ 15 ∧ w'.ownsRow w.heap.size 2 1 v zs.length (valsZ zs) ∧ SrcB B w' b ∧ Only b w w' := by
  obtain ⟨i0, hi0, hz0, hz1, hz2⟩ := info_parts info2'
  have hb : b < w.heap.size := Nat.lt_of_lt_of_le hs.1 hs.2.1
  have hBw : B ≤ w.heap.size := hs.2.1
  have HT0 := Lib.hid (TabAt.new w sl rs.length cap sl2 m cap2)
  have hM : (w.alloc (.cells #[.slice sl rs.length cap, .slice sl2 m cap2] 26)).heap.size = w.heap.size + 1 := by simp
  have BA := Lib.hid (bA0 w (.cells #[.slice sl rs.length cap, .slice sl2 m cap2] 26))
  have BB := Lib.hid (bA0 (w.alloc (.cells #[.slice sl rs.length cap, .slice sl2 m cap2] 26)) (.cells #[] 2))
  have O0 := Lib.hid (own_none5 (w.alloc (.cells #[.slice sl rs.length cap, .slice sl2 m cap2] 26)))
  rw [hM] at O0
  have KT : Hid (∀ W, Only b (w.alloc (.cells #[.slice sl rs.length cap, .slice sl2 m cap2] 26)) W → w.heap.size < W.heap.size ∧ W.cell? ⟨w.heap.size, 0, none⟩ = some (.slice sl rs.length cap) ∧ W.cell? ⟨w.heap.size, 1, none⟩ = some (.slice sl2 m cap2)) := fun W hW => by
    have : TabAt W w.heap.size sl rs.length cap sl2 m cap2 := (hW.block w.heap.size HT0.out.lt (by omega)).trans HT0.out
    exact ⟨this.lt, this.cells⟩
  have OX : Hid (∀ W, Only b (w.alloc (.cells #[.slice sl rs.length cap, .slice sl2 m cap2] 26)) W → Only b w W) := fun W hW => (Only.of_below BA.out).trans hW
  have TX : Hid (∀ W, Only b (w.alloc (.cells #[.slice sl rs.length cap, .slice sl2 m cap2] 26)) W → Sts W sl rs) := fun W hW => ht W (OX.out W hW)
  have S0 : Hid (SrcB B ((w.alloc (.cells #[.slice sl rs.length cap, .slice sl2 m cap2] 26)).alloc (.cells #[] 2)) b) := (hs.below BA.out).below BB.out
  have N0 : Hid (Only b (w.alloc (.cells #[.slice sl rs.length cap, .slice sl2 m cap2] 26)) ((w.alloc (.cells #[.slice sl rs.length cap, .slice sl2 m cap2] 26)).alloc (.cells #[] 2))) := Only.of_below BB.out
  have SZ : Hid (∀ W, Only b (w.alloc (.cells #[.slice sl rs.length cap, .slice sl2 m cap2] 26)) W → w.heap.size + 1 ≤ W.heap.size) := fun W hW => by have := hW.size; rw [hM] at this; exact this
  have GR : Hid (∀ W W' row, Only b (w.alloc (.cells #[.slice sl rs.length cap, .slice sl2 m cap2] 26)) W → W.grownBy W' row → (∀ j, row = some j → w.heap.size + 1 ≤ j) → Only b (w.alloc (.cells #[.slice sl rs.length cap, .slice sl2 m cap2] 26)) W') := fun W W' row h1 h2 h3 => h1.grown h2 (fun g hg => by rw [hM]; exact h3 g hg)
  clear hs ht HT0 BA BB hM
  generalize hN : rs.length = n at *
  have HN := Lib.hid hN
  clear hN
  go_enter Try.func95, Try.ntmps95
  go_wp2
  generalize (w.alloc (.cells #[.slice sl n cap, .slice sl2 m cap2] 26)).alloc (.cells #[] 2) = w2 at *
  generalize w.alloc (.cells #[.slice sl n cap, .slice sl2 m cap2] 26) = wA at *
  go_loopw [5, 6] (fun v i wr => ∃ (k : Nat) (zs : List Int), i = .int .i64 k ∧ k ≤ n ∧ zs.length ≤ k ∧ Hid (wr.ownsRow (w.heap.size + 1) 2 1 v zs.length (valsZ zs)) ∧ Hid (SrcB B wr b) ∧ Hid (Only b wA wr)) (fun _ i _ => n - (intOf i).toNat)
  case atStart => exact ⟨0, [], rfl, Nat.zero_le _, Nat.le_refl _, O0, S0, N0⟩
  case round =>
    obtain ⟨k, zs, rfl, hk, hzk, OW, SW, NW⟩ := hrel
    clear O0 S0 N0
    have hk0 : (0 : Int) ≤ (k : Int) := by omega
    obtain ⟨q0, q1, q2⟩ := KT.out _ NW.out
    by_cases h1 : k < n
    · have h1' : (k : Int) < (n : Int) := by omega
      go_wp2_with fail
      refine (oneB_any B b 4 wr (by decide) SW.out).mono ?_
      rintro e wq ⟨t, rfl, sq, oq⟩
      have SQ := Lib.hid sq
      have NQ := Lib.hid (NW.out.trans oq)
      have OQ := Lib.hid (own_only OW.out oq (by omega))
      clear sq oq OW SW NW q0 q1 q2
      cases t with
      | true =>
        go_wp2
        go_roundw
        case rel => exact ⟨k + 1, zs, by go_num, by omega, by omega, OQ, SQ, NQ⟩
        case measure => simp [intOf]; omega
      | false =>
        obtain ⟨q0, q1, q2⟩ := KT.out _ NQ.out
        have hlt : k < rs.length := by rw [HN.out]; exact h1
        obtain ⟨c, o, rfl, ST⟩ : ∃ c o, sl = some ⟨c, o, none⟩ ∧ StAt wq c o rs := by
          rcases (TX.out _ NQ.out).1 with e | h
          · rw [e] at hlt; simp at hlt
          · exact h
        obtain ⟨c0, -, -⟩ := ST.cell k hlt
        have cl := ST.lt
        generalize rs[k].1 = z at *
        have hs9 := SZ.out _ NQ.out
        clear ST hlt
        go_wp2_with (first | (at_builtin; refine wpList_append_lies _ rfl (.tmp 18) (.tmp 25) 40 rfl (w.heap.size + 1) 2 i0 (.int .i64 0) 1 8 Try.underlying40 hi0 hz0 hz1 hz2 rfl (by decide) _ _ _ rfl (OQ.out.alloc _) ⟨wq.heap.size, 0, none⟩ 1 1 [.int .i64 z] rfl rfl (cell_one_new _ _ _) (by intro u hu; simp at hu; subst hu; rfl) (by decide) (by unfold maxLen; omega) (by omega) (by simp; omega) (wq.heap.size + 1) (by simp) ?_))
        intro g9 cap9 w9 own9 grow9 hg9 hlt9
        have N9 := Lib.hid (GR.out _ _ _ (NQ.out.trans (Only.of_below (bA0 wq (.cells #[.int .i64 z] 2)))) grow9 (fun j hj => (OQ.out.lt j hj).1))
        have S9 := Lib.hid ((SQ.out.below (bA0 wq (.cells #[.int .i64 z] 2))).grown grow9 (fun j hj => by have := (OQ.out.lt j hj).1; omega))
        have O9 : Hid (w9.ownsRow (w.heap.size + 1) 2 1 (.slice (some ⟨g9, 0, none⟩) (zs.length + 1) cap9) (zs ++ [z]).length (valsZ (zs ++ [z]))) := by
          show World.ownsRow _ _ _ _ _ _ _
          have := own9
          rw [show valsZ (zs ++ [z]) = valsZ zs ++ [.int .i64 z] by simp [valsZ], List.length_append]
          exact this
        clear own9 grow9 hg9 hlt9
        go_wp2
        go_roundw
        case rel => exact ⟨k + 1, zs ++ [z], by go_num, by omega, by simp; omega, O9, S9, N9⟩
        case measure => simp [intOf]; omega
    · have h1' : ¬ (k : Int) < (n : Int) := by omega
      go_wp2_with fail
      refine (oneB_any B b 25 wr (by decide) SW.out).mono ?_
      rintro e wq ⟨t, rfl, sq, oq⟩
      have SQ := Lib.hid sq
      have NQ := Lib.hid (NW.out.trans oq)
      have OQ := Lib.hid (own_only OW.out oq (by omega))
      clear sq oq OW SW NW q0 q1 q2
      cases t with
      | true =>
        go_wp2_with fail
        refine (nB_lt B b 30 wq (by decide) (by decide) SQ.out).mono ?_
        rintro e wp ⟨z, rfl, z0, z1, sp, op⟩
        have SP := Lib.hid sp
        have NP := Lib.hid (NQ.out.trans op)
        have OP := Lib.hid (own_only OQ.out op (by omega))
        have hs9 := SZ.out _ NP.out
        clear sp op OQ SQ NQ
        go_wp2_with (first | (at_builtin; refine wpList_append_lies _ rfl (.tmp 29) (.tmp 32) 40 rfl (w.heap.size + 1) 2 i0 (.int .i64 0) 1 8 Try.underlying40 hi0 hz0 hz1 hz2 rfl (by decide) _ _ _ rfl (OP.out.alloc _) ⟨wp.heap.size, 0, none⟩ 1 1 [.int .i64 z] rfl rfl (cell_one_new _ _ _) (by intro u hu; simp at hu; subst hu; rfl) (by decide) (by unfold maxLen; omega) (by omega) (by simp; omega) (wp.heap.size + 1) (by simp) ?_))
        intro g9 cap9 w9 own9 grow9 hg9 hlt9
        have N9 := Lib.hid (GR.out _ _ _ (NP.out.trans (Only.of_below (bA0 wp (.cells #[.int .i64 z] 2)))) grow9 (fun j hj => (OP.out.lt j hj).1))
        have S9 := Lib.hid ((SP.out.below (bA0 wp (.cells #[.int .i64 z] 2))).grown grow9 (fun j hj => by have := (OP.out.lt j hj).1; omega))
        have O9 : Hid (w9.ownsRow w.heap.size 2 1 (.slice (some ⟨g9, 0, none⟩) (zs.length + 1) cap9) (zs ++ [z]).length (valsZ (zs ++ [z]))) := by
          show World.ownsRow _ _ _ _ _ _ _
          have := own_mono own9 (show w.heap.size ≤ w.heap.size + 1 by omega)
          rw [show valsZ (zs ++ [z]) = valsZ zs ++ [.int .i64 z] by simp [valsZ], List.length_append]
          exact this
        have F9 := Lib.hid (OX.out _ N9.out)
        clear own9 grow9 hg9 hlt9
        go_wp2
        go_ret
        exact ⟨_, zs ++ [z], rfl, by simp; omega, O9.out, S9.out, F9.out⟩
      | false =>
        have O9 := Lib.hid (own_mono OQ.out (show w.heap.size ≤ w.heap.size + 1 by omega))
        have F9 := Lib.hid (OX.out _ NQ.out)
        clear OQ
        go_wp2
        go_ret
        exact ⟨_, zs, rfl, by omega, O9.out, SQ.out, F9.out⟩

end Go.Proofs.Ytdmfljejlhlbnaa
namespace Go.Proofs.Ytdmfljejlhlbnaa
open Go.RowKit
set_option linter.unusedVariables false

theorem pfP_len (rs : List LSt) (ps : List LPr) (top : Int) (ids : List Int) (bd : Int) : (pfP rs ps top ids bd).length ≤ 400 := by
  unfold pfP
  by_cases h : PfOk rs ps ids bd
  · rw [B_yes h, if_pos rfl]
    have hl := seek_len (fitB ps) bd.toNat (ids.map (chF rs top)) [] 0
    have h4 := h.1.1
    unfold pfS
    cases hr : seek (fitB ps) bd.toNat (ids.map (chF rs top)) [] 0 with
    | found p s =>
      have := hl p s hr
      simp at this
      show p.length ≤ 400
      omega
    | none s => exact Nat.zero_le _
    | out s => exact Nat.zero_le _
  · rw [B_no h]; exact Nat.zero_le _
theorem en_set : ∀ (pl : List LPl) (j : Nat) (h : j < pl.length) (x : Int), enCells (pl.set j (pl[j].1, x)) = (enCells pl).set (j * 2 + 1) (.int .i64 x)
  | p :: r, 0, _, x => by simp [enCells, encE]
  | p :: r, j + 1, h, x => by
    have hj : j < r.length := by simpa using h
    have := en_set r j hj x
    simp only [List.set_cons_succ, List.getElem_cons_succ]
    show encE p ++ enCells (r.set j (r[j].1, x)) = (encE p ++ enCells r).set ((j + 1) * 2 + 1) _
    rw [this, show (j + 1) * 2 + 1 = j * 2 + 1 + 2 by omega]
    rfl
/-- A channel written into a row of places. -/
theorem pl_put {W : World} {B : Nat} {v : Value} {pl : List LPl} (h : W.ownsRow B 34 2 v pl.length (enCells pl)) (j : Nat) (hj : j < pl.length) :
    ∃ g cap, v = .slice (some ⟨g, 0, none⟩) pl.length cap ∧ B ≤ g ∧ g < W.heap.size ∧ (∃ y, W.cell? ⟨g, j * 2 + 1, none⟩ = some (.int .i64 y)) ∧ W.frozen? ⟨g, j * 2 + 1, none⟩ = false ∧ ∀ x : Int, ∃ pl' : List LPl, pl'.length = pl.length ∧ (W.setCell ⟨g, j * 2 + 1, none⟩ (.int .i64 x)).ownsRow B 34 2 v pl'.length (enCells pl') := by
  obtain ⟨s, k, e, hp⟩ := own_pls h
  rcases hp with hp | ⟨g, rfl, pa, hg⟩
  · rw [hp] at hj; simp at hj
  · subst e
    refine ⟨g, k, rfl, hg, pa.lt, ⟨pl[j].2, ?_⟩, ?_, fun x => ⟨pl.set j (pl[j].1, x), by simp, ?_⟩⟩
    · have := (pa.cell j hj).2
      rwa [Nat.zero_add] at this
    · rcases h.2 with ⟨h, _⟩ | ⟨g', cap', cur, hv, _, hh, _⟩
      · cases h
      · cases hv; simp [World.frozen?, hh]
    · refine ⟨by rw [enCells_len], ?_⟩
      rcases h.2 with ⟨h, _⟩ | ⟨g', cap', cur, hv, hg', hh, hc, hm, hs, ht⟩
      · cases h
      · cases hv
        refine .inr ⟨g, k, cur.setIfInBounds (j * 2 + 1) (.int .i64 x), by simp, hg', heap_setCell_same W g (j * 2 + 1) cur 34 (.int .i64 x) hh, by simpa using hc, hm, by simpa using hs, ?_⟩
        rw [Array.toList_setIfInBounds, List.take_set, List.length_set, ht, en_set pl j hj x]

set_option maxRecDepth 100000 in
set_option maxHeartbeats 8000000 in
/-- spec.l05Plan. -/
theorem lplan_any (B b : Nat) (sl : Option Addr) (cap : Nat) (sl2 : Option Addr) (cap2 : Nat) (rs : List LSt) (ps : List LPr) (top : Int) (w : World) (hn : rs.length ≤ 14) (hs : SrcB B w b) (ht : ∀ W, Only b w W → Sts W sl rs ∧ Prs W sl2 ps) :
    Calls Try.prog 66 #[.pointer (some ⟨b, 0, none⟩), TV sl rs.length cap sl2 ps.length cap2, .int .i64 top] w fun e w' => ∃ v pl, e = .returned v ∧ List.length pl ≤ 401 ∧ w'.ownsRow w.heap.size 34 2 v pl.length (enCells pl) ∧ SrcB B w' b ∧ Only b w w' := by
  have hb : b < w.heap.size := Nat.lt_of_lt_of_le hs.1 hs.2.1
  have hBw : B ≤ w.heap.size := hs.2.1
  have HT0 := Lib.hid (TabAt.new w sl rs.length cap sl2 ps.length cap2)
  have hM : (w.alloc (.cells #[.slice sl rs.length cap, .slice sl2 ps.length cap2] 26)).heap.size = w.heap.size + 1 := by simp
  have BA := Lib.hid (bA0 w (.cells #[.slice sl rs.length cap, .slice sl2 ps.length cap2] 26))
  have KT : Hid (∀ W, Only b (w.alloc (.cells #[.slice sl rs.length cap, .slice sl2 ps.length cap2] 26)) W → w.heap.size < W.heap.size ∧ W.cell? ⟨w.heap.size, 0, none⟩ = some (.slice sl rs.length cap) ∧ W.cell? ⟨w.heap.size, 1, none⟩ = some (.slice sl2 ps.length cap2)) := fun W hW => by
    have : TabAt W w.heap.size sl rs.length cap sl2 ps.length cap2 := (hW.block w.heap.size HT0.out.lt (by omega)).trans HT0.out
    exact ⟨this.lt, this.cells⟩
  have OX : Hid (∀ W, Only b (w.alloc (.cells #[.slice sl rs.length cap, .slice sl2 ps.length cap2] 26)) W → Only b w W) := fun W hW => (Only.of_below BA.out).trans hW
  have S0 : Hid (SrcB B (w.alloc (.cells #[.slice sl rs.length cap, .slice sl2 ps.length cap2] 26)) b) := hs.below BA.out
  have SZ : Hid (∀ W, Only b (w.alloc (.cells #[.slice sl rs.length cap, .slice sl2 ps.length cap2] 26)) W → w.heap.size + 1 ≤ W.heap.size) := fun W hW => by have := hW.size; rw [hM] at this; exact this
  have GR : Hid (∀ W W' row, Only b (w.alloc (.cells #[.slice sl rs.length cap, .slice sl2 ps.length cap2] 26)) W → W.grownBy W' row → (∀ j, row = some j → w.heap.size + 1 ≤ j) → Only b (w.alloc (.cells #[.slice sl rs.length cap, .slice sl2 ps.length cap2] 26)) W') := fun W W' row h1 h2 h3 => h1.grown h2 (fun g hg => by rw [hM]; exact h3 g hg)
  have PS : Hid (∀ W g o x, Only b (w.alloc (.cells #[.slice sl rs.length cap, .slice sl2 ps.length cap2] 26)) W → w.heap.size + 1 ≤ g → Only b (w.alloc (.cells #[.slice sl rs.length cap, .slice sl2 ps.length cap2] 26)) (W.setCell ⟨g, o, none⟩ x)) := fun W g o x h1 h2 => h1.setHigh g (by rw [hM]; exact h2) o x
  have E1 : Hid (∀ W, Only b (w.alloc (.cells #[.slice sl rs.length cap, .slice sl2 ps.length cap2] 26)) W → SrcB B W b → Calls Try.prog 95 #[.pointer (some ⟨b, 0, none⟩), TV sl rs.length cap sl2 ps.length cap2] W fun e w' => ∃ v zs, e = .returned v ∧ List.length zs ≤ 15 ∧ w'.ownsRow W.heap.size 2 1 v zs.length (valsZ zs) ∧ SrcB B w' b ∧ Only b W w') := fun W h1 h2 => lids_any B b sl cap sl2 ps.length cap2 rs W hn h2 (fun W' h' => (ht W' ((OX.out W h1).trans h')).1)
  have E2 : Hid (∀ W s k zs, Only b (w.alloc (.cells #[.slice sl rs.length cap, .slice sl2 ps.length cap2] 26)) W → Ints W s zs → zs.length ≤ 15 → Calls Try.prog 45 #[TV sl rs.length cap sl2 ps.length cap2, .int .i64 top, .slice s zs.length k, .int .i64 300] W fun e w' => ∃ (x y z : Int) (ps : Option Addr) (pk : Nat) (pl : List LPl), e = .returned (.agg #[.int .i64 x, .slice ps pl.length pk, .int .i64 y, .int .i64 z]) ∧ pl.length ≤ 400 ∧ Pls w' ps pl ∧ Below W.heap.size W w') := fun W s k zs h1 h2 h3 => by
    obtain ⟨t1, t2⟩ := ht W (OX.out W h1)
    refine (spl_any sl cap sl2 cap2 s k rs ps top zs 300 W (by omega) (by omega) t1 t2 h2).mono ?_
    rintro e w' ⟨pv, rfl, sp, bl⟩
    obtain ⟨s', k', rfl, hp⟩ := sp.pls
    exact ⟨_, _, _, s', k', _, rfl, pfP_len rs ps top zs 300, hp, bl⟩
  clear hs ht HT0 BA
  generalize rs.length = n at *
  generalize ps.length = m at *
  go_enter Try.func66, Try.ntmps66
  go_wp2_with fail
  generalize w.alloc (.cells #[.slice sl n cap, .slice sl2 m cap2] 26) = wA at *
  have N0 : Hid (Only b wA wA.drew) := (Only.refl b wA).drew
  have T0 : Hid (SrcB B wA.drew b) := ⟨S0.out.1, S0.out.2.1, S0.out.2.2⟩
  have hM' : wA.drew.heap.size = w.heap.size + 1 := hM
  refine wp_region_held_drew (S := fun W => w.heap.size < W.heap.size ∧ W.cell? ⟨w.heap.size, 0, none⟩ = some (.slice sl n cap) ∧ W.cell? ⟨w.heap.size, 1, none⟩ = some (.slice sl2 m cap2)) (by kernel_rfl) ?_ (fun hHeld => ?_)
  · exact KT.out _ N0.out
  refine wpAnyH_take (i := 1) (oi := _) (v := ?_) rfl (by kernel_rfl) (by kernel_rfl) (by kernel_rfl) (fun _ _ _ h => h) (Or.inl ⟨by rfl, ?_⟩) (by assumption) ?_
  rotate_left
  · first | (intro w hSw; (try dsimp only at hSw); go_simp; done) | (intro w hSw; (try dsimp only at hSw); go_simp; with_reducible rfl)
  try simp only [Act.put, List.setIfInBounds_toArray, List.set_cons_zero, List.set_cons_succ, List.getElem_toArray, List.getElem_cons_succ, List.getElem_cons_zero]
  refine wpAnyH_take (i := 2) (oi := _) (v := ?_) rfl (by kernel_rfl) (by kernel_rfl) (by kernel_rfl) (fun _ _ _ h => h) (Or.inl ⟨by rfl, ?_⟩) (by assumption) ?_
  rotate_left
  · first | (intro w hSw; (try dsimp only at hSw); go_simp; done) | (intro w hSw; (try dsimp only at hSw); go_simp; with_reducible rfl)
  try simp only [Act.put, List.setIfInBounds_toArray, List.set_cons_zero, List.set_cons_succ, List.getElem_toArray, List.getElem_cons_succ, List.getElem_cons_zero]
  refine wpAnyH_take (i := 3) (oi := _) (v := ?_) rfl (by kernel_rfl) (by kernel_rfl) (by kernel_rfl) (fun _ _ _ h => h) (Or.inl ⟨by rfl, ?_⟩) (by assumption) ?_
  rotate_left
  · first | (intro w hSw; (try dsimp only at hSw); go_simp; done) | (intro w hSw; (try dsimp only at hSw); go_simp; with_reducible rfl)
  try simp only [Act.put, List.setIfInBounds_toArray, List.set_cons_zero, List.set_cons_succ, List.getElem_toArray, List.getElem_cons_succ, List.getElem_cons_zero]
  refine wpAnyH_take (i := 4) (oi := _) (v := ?_) rfl (by kernel_rfl) (by kernel_rfl) (by kernel_rfl) (fun _ _ _ h => h) (Or.inl ⟨by rfl, ?_⟩) (by assumption) ?_
  rotate_left
  · first | (intro w hSw; (try dsimp only at hSw); go_simp; done) | (intro w hSw; (try dsimp only at hSw); go_simp; with_reducible rfl)
  try simp only [Act.put, List.setIfInBounds_toArray, List.set_cons_zero, List.set_cons_succ, List.getElem_toArray, List.getElem_cons_succ, List.getElem_cons_zero]
  refine wpAnyH_ready (rs := [0, 5]) (by kernel_rfl) (by simp) ?_
  refine AllReadyH.cons rfl (fun K hK => ?_) (AllReadyH.cons rfl (fun K hK => ?_) AllReadyH.nil)
  · go_simp
    have NA0 := Lib.hid (N0.out.trans (Only.of_below (bA0 wA.drew (.cells #[] 34))))
    have SA0 := Lib.hid (T0.out.below (bA0 wA.drew (.cells #[] 34)))
    have O4 : Hid ((wA.drew.alloc (.cells #[] 34)).ownsRow (w.heap.size + 1) 34 2 (.slice (some ⟨wA.drew.heap.size, 0, none⟩) 0 0) ([] : List LPl).length (enCells [])) := own_mono (own_none2 wA.drew) (by omega)
    refine hK.out _ _ ?_ (fun hHeld => ?_)
    · exact KT.out _ NA0.out
    clear hK K
    refine wpAnyH_ready (rs := [5]) (by kernel_rfl) (by simp) ?_
    refine AllReadyH.cons rfl (fun K hK => ?_) AllReadyH.nil
    go_simp
    go_wp2_with (go_at_call 95; refine (E1.out _ NA0.out SA0.out).mono ?_; rintro e w5 ⟨v5, zs, rfl, hzs, o5, s5, n5⟩)
    have N5 := Lib.hid (NA0.out.trans n5)
    have S5 := Lib.hid s5
    obtain ⟨is, ik, rfl, ii⟩ := own_ints o5
    have O5 := Lib.hid o5
    have O4b := Lib.hid (own_only O4.out n5 (by omega))
    clear o5 n5 s5 ii
    refine hK.out _ _ ?_ (fun hHeld => ?_)
    · exact KT.out _ N5.out
    clear hK K
    refine wpAnyH_ready (rs := [6]) (by kernel_rfl) (by simp) ?_
    refine AllReadyH.cons rfl (fun K hK => ?_) AllReadyH.nil
    go_simp
    obtain ⟨is', ik', e5', ii5⟩ := own_ints O5.out
    cases e5'
    go_wp2_with (go_at_call 45; refine (E2.out _ is ik zs N5.out ii5 hzs).mono ?_; rintro e w6 ⟨x6, y6, z6, ps6, pk6, pl, rfl, hpl, hp6, b6⟩)
    have N6 := Lib.hid (N5.out.trans (Only.of_below b6))
    have S6 := Lib.hid (S5.out.below b6)
    have P6 := Lib.hid hp6
    have hfd : ∀ w : World, (Instr.field 70 (.agg #[.int .i64 x6, .slice ps6 pl.length pk6, .int .i64 y6, .int .i64 z6]) 1).run Try.prog w = .ok (.slice ps6 pl.length pk6) w := fun _ => by kernel_rfl
    have O6 := Lib.hid (own_below O4b.out b6)
    clear hp6 b6 ii5 O5
    refine hK.out _ _ ?_ (fun hHeld => ?_)
    · exact KT.out _ N6.out
    clear hK K
    refine wpAnyH_take (i := 7) (oi := _) (v := ?_) rfl (by kernel_rfl) (by kernel_rfl) (by kernel_rfl) (fun _ _ _ h => h) (Or.inl ⟨by rfl, ?_⟩) (by assumption) ?_
    rotate_left
    · first | (intro w hSw; (try dsimp only at hSw); go_simp; done) | (intro w hSw; (try dsimp only at hSw); go_simp; with_reducible rfl)
    try simp only [Act.put, List.setIfInBounds_toArray, List.set_cons_zero, List.set_cons_succ, List.getElem_toArray, List.getElem_cons_succ, List.getElem_cons_zero]
    clear hfd
    refine wpAnyH_ready (rs := [8]) (by kernel_rfl) (by simp) ?_
    refine AllReadyH.cons rfl (fun K hK => ?_) AllReadyH.nil
    have hz8 := SZ.out _ N6.out
    obtain ⟨v8, w8, hr8, ow8, gr8, lo8⟩ := appP O6.out pk6 P6.out (by omega) (by simp; omega)
    have N8 := Lib.hid (GR.out _ _ _ N6.out gr8 lo8)
    have S8 := Lib.hid (S6.out.grown gr8 (fun j hj => by have := lo8 j hj; omega))
    rw [List.nil_append] at ow8
    obtain ⟨vs8, vk8, rfl⟩ := own_v ow8
    have O8 := Lib.hid ow8
    have hr8' := hr8 27
    refine step_append_run _ rfl (.tmp 8) (.tmp 15) 27 27 rfl _ _ (by simp [Act.eval]) (by simp [Act.eval]) _ _ hr8' ?_
    refine hK.out _ _ ?_ (fun hHeld => ?_)
    · exact KT.out _ N8.out
    clear hK K
    try simp only [Act.put, List.setIfInBounds_toArray, List.set_cons_zero, List.set_cons_succ, List.getElem_toArray, List.getElem_cons_succ, List.getElem_cons_zero]
    clear hr8 hr8' gr8 lo8 ow8 
    refine wpAnyH_take (i := 9) (oi := _) (v := ?_) rfl (by kernel_rfl) (by kernel_rfl) (by kernel_rfl) (fun _ _ _ h => h) (Or.inl ⟨by rfl, ?_⟩) (by assumption) ?_
    rotate_left
    · first | (intro w hSw; (try dsimp only at hSw); go_simp; done) | (intro w hSw; (try dsimp only at hSw); go_simp; with_reducible rfl)
    try simp only [Act.put, List.setIfInBounds_toArray, List.set_cons_zero, List.set_cons_succ, List.getElem_toArray, List.getElem_cons_succ, List.getElem_cons_zero]
    refine wpAnyH_done (by kernel_rfl) ?_ _
    clear N5 S5 N6 S6 P6
    go_wp2_with fail
    refine (oneB_any B b 3 w8 (by decide) S8.out).mono ?_
    rintro e wa ⟨t, rfl, sa, oa⟩
    have SA := Lib.hid sa
    have NA := Lib.hid (N8.out.trans oa)
    have OA := Lib.hid (own_only O8.out oa (by omega))
    clear sa oa S8 N8 O8
    cases t with
    | false =>
      go_wp2_with fail
      refine (oneB_any B b 20 _ (by decide) SA.out).mono ?_
      rintro e wt ⟨t, rfl, st, ot⟩
      have ST := Lib.hid st
      have NT := Lib.hid (NA.out.trans ot)
      have OT := Lib.hid (own_only OA.out ot (by omega))
      clear st ot
      cases t with
      | true =>
        go_wp2_with fail
        refine (nB_lt B b 9 wt (by decide) (by decide) ST.out).mono ?_
        rintro e wu ⟨r, rfl, r0, r1, su, ou⟩
        have NU := Lib.hid (NT.out.trans ou)
        have SU := Lib.hid su
        have OU := Lib.hid (own_only OT.out ou (by omega))
        have hzu := SZ.out _ NU.out
        clear su ou ST NT OT
        obtain ⟨v9, w9, hr9, ow9, gr9, lo9⟩ := appP (OU.out.alloc (.cells #[.int .i64 r, .int .i64 2] 34)) 1 (pls_one (new_at wu _)) (by simp; omega) (by simp; omega)
        have N9 := Lib.hid (OX.out _ (GR.out _ _ _ (NU.out.trans (Only.of_below (bA0 wu (.cells #[.int .i64 r, .int .i64 2] 34)))) gr9 lo9))
        have S9 := Lib.hid ((SU.out.below (bA0 wu (.cells #[.int .i64 r, .int .i64 2] 34))).grown gr9 (fun j hj => by have := lo9 j hj; omega))
        have O9 := Lib.hid (own_mono ow9 (show w.heap.size ≤ w.heap.size + 1 by omega))
        have hr9' := hr9 27
        clear hr9 gr9 lo9 ow9
        go_wp2_with (at_builtin; refine Lib.wpList_append_run _ rfl _ _ _ _ rfl _ _ rfl rfl _ _ hr9' ?_)
        go_ret
        exact ⟨_, pl ++ [(r, 2)], rfl, by simp; omega, O9.out, S9.out, N9.out⟩
      | false =>
        have O9 := Lib.hid (own_mono OT.out (show w.heap.size ≤ w.heap.size + 1 by omega))
        have N9 := Lib.hid (OX.out _ NT.out)
        clear OT NT
        go_wp2
        go_ret
        exact ⟨_, pl, rfl, by omega, O9.out, ST.out, N9.out⟩
    | true =>
      by_cases hl0 : pl.length = 0
      · have hl0' : ¬ (pl.length : Int) > 0 := by omega
        clear hl0
        go_wp2_with fail
        refine (oneB_any B b 20 _ (by decide) SA.out).mono ?_
        rintro e wt ⟨t, rfl, st, ot⟩
        have ST := Lib.hid st
        have NT := Lib.hid (NA.out.trans ot)
        have OT := Lib.hid (own_only OA.out ot (by omega))
        clear st ot
        cases t with
        | true =>
          go_wp2_with fail
          refine (nB_lt B b 9 wt (by decide) (by decide) ST.out).mono ?_
          rintro e wu ⟨r, rfl, r0, r1, su, ou⟩
          have NU := Lib.hid (NT.out.trans ou)
          have SU := Lib.hid su
          have OU := Lib.hid (own_only OT.out ou (by omega))
          have hzu := SZ.out _ NU.out
          clear su ou ST NT OT
          obtain ⟨v9, w9, hr9, ow9, gr9, lo9⟩ := appP (OU.out.alloc (.cells #[.int .i64 r, .int .i64 2] 34)) 1 (pls_one (new_at wu _)) (by simp; omega) (by simp; omega)
          have N9 := Lib.hid (OX.out _ (GR.out _ _ _ (NU.out.trans (Only.of_below (bA0 wu (.cells #[.int .i64 r, .int .i64 2] 34)))) gr9 lo9))
          have S9 := Lib.hid ((SU.out.below (bA0 wu (.cells #[.int .i64 r, .int .i64 2] 34))).grown gr9 (fun j hj => by have := lo9 j hj; omega))
          have O9 := Lib.hid (own_mono ow9 (show w.heap.size ≤ w.heap.size + 1 by omega))
          have hr9' := hr9 27
          clear hr9 gr9 lo9 ow9
          go_wp2_with (at_builtin; refine Lib.wpList_append_run _ rfl _ _ _ _ rfl _ _ rfl rfl _ _ hr9' ?_)
          go_ret
          exact ⟨_, pl ++ [(r, 2)], rfl, by simp; omega, O9.out, S9.out, N9.out⟩
        | false =>
          have O9 := Lib.hid (own_mono OT.out (show w.heap.size ≤ w.heap.size + 1 by omega))
          have N9 := Lib.hid (OX.out _ NT.out)
          clear OT NT
          go_wp2
          go_ret
          exact ⟨_, pl, rfl, by omega, O9.out, ST.out, N9.out⟩
      · have hl0' : (pl.length : Int) > 0 := by omega
        clear hl0
        have hl1 : (1 : Int) ≤ (pl.length : Int) := by omega
        have hl2 : (pl.length : Int) ≤ 9223372036854775807 := by omega
        go_wp2_with fail
        refine (nB_lt B b (pl.length : Int) wa hl1 hl2 SA.out).mono ?_
        rintro e wb ⟨r, rfl, r0, r1, sb, ob⟩
        obtain ⟨j, rfl⟩ : ∃ j : Nat, r = (j : Int) := ⟨r.toNat, by omega⟩
        have hj : j < pl.length := by omega
        have SB := Lib.hid sb
        have NB := Lib.hid (NA.out.trans ob)
        have OB := Lib.hid (own_only OA.out ob (by omega))
        clear sb ob SA NA OA
        go_wp2_with fail
        refine (nB_lt B b 6 wb (by decide) (by decide) SB.out).mono ?_
        rintro e wc ⟨q, rfl, q0, q1, sc, oc⟩
        have SC := Lib.hid sc
        have NC := Lib.hid (NB.out.trans oc)
        have OC := Lib.hid (own_only OB.out oc (by omega))
        clear sc oc SB NB OB
        obtain ⟨g, gk, eg, hg, hgl, ⟨y, hy⟩, hfz, hput⟩ := pl_put OC.out j hj
        cases eg
        obtain ⟨pl', hpl', od⟩ := hput (2 + q)
        have OD := Lib.hid od
        have ND := Lib.hid (PS.out _ g (j * 2 + 1) (.int .i64 (2 + q)) NC.out hg)
        have SD := Lib.hid (SC.out.set g (by omega) (j * 2 + 1) (.int .i64 (2 + q)))
        have hpl4 : pl'.length ≤ 400 := by omega
        clear hput od SC NC OC
        clear hpl'
        go_wp2_with fail
        refine (oneB_any B b 20 _ (by decide) SD.out).mono ?_
        rintro e wt ⟨t, rfl, st, ot⟩
        have ST := Lib.hid st
        have NT := Lib.hid (ND.out.trans ot)
        have OT := Lib.hid (own_only OD.out ot (by omega))
        clear st ot
        cases t with
        | true =>
          go_wp2_with fail
          refine (nB_lt B b 9 wt (by decide) (by decide) ST.out).mono ?_
          rintro e wu ⟨r, rfl, r0, r1, su, ou⟩
          have NU := Lib.hid (NT.out.trans ou)
          have SU := Lib.hid su
          have OU := Lib.hid (own_only OT.out ou (by omega))
          have hzu := SZ.out _ NU.out
          clear su ou ST NT OT
          obtain ⟨v9, w9, hr9, ow9, gr9, lo9⟩ := appP (OU.out.alloc (.cells #[.int .i64 r, .int .i64 2] 34)) 1 (pls_one (new_at wu _)) (by simp; omega) (by simp; omega)
          have N9 := Lib.hid (OX.out _ (GR.out _ _ _ (NU.out.trans (Only.of_below (bA0 wu (.cells #[.int .i64 r, .int .i64 2] 34)))) gr9 lo9))
          have S9 := Lib.hid ((SU.out.below (bA0 wu (.cells #[.int .i64 r, .int .i64 2] 34))).grown gr9 (fun j hj => by have := lo9 j hj; omega))
          have O9 := Lib.hid (own_mono ow9 (show w.heap.size ≤ w.heap.size + 1 by omega))
          have hr9' := hr9 27
          clear hr9 gr9 lo9 ow9
          go_wp2_with (at_builtin; refine Lib.wpList_append_run _ rfl _ _ _ _ rfl _ _ rfl rfl _ _ hr9' ?_)
          go_ret
          exact ⟨_, pl' ++ [(r, 2)], rfl, by simp; omega, O9.out, S9.out, N9.out⟩
        | false =>
          have O9 := Lib.hid (own_mono OT.out (show w.heap.size ≤ w.heap.size + 1 by omega))
          have N9 := Lib.hid (OX.out _ NT.out)
          clear OT NT
          go_wp2
          go_ret
          exact ⟨_, pl', rfl, by omega, O9.out, ST.out, N9.out⟩
  · go_simp
    go_wp2_with (go_at_call 95; refine (E1.out _ N0.out T0.out).mono ?_; rintro e w5 ⟨v5, zs, rfl, hzs, o5, s5, n5⟩)
    have N5 := Lib.hid (N0.out.trans n5)
    have S5 := Lib.hid s5
    obtain ⟨is, ik, rfl, ii⟩ := own_ints o5
    have O5 := Lib.hid o5
    clear o5 n5 s5 ii
    refine hK.out _ _ ?_ (fun hHeld => ?_)
    · exact KT.out _ N5.out
    clear hK K
    refine wpAnyH_ready (rs := [0, 6]) (by kernel_rfl) (by simp) ?_
    refine AllReadyH.cons rfl (fun K hK => ?_) (AllReadyH.cons rfl (fun K hK => ?_) AllReadyH.nil)
    · go_simp
      have N5a := Lib.hid (N5.out.trans (Only.of_below (bA0 w5 (.cells #[] 34))))
      have S5a := Lib.hid (S5.out.below (bA0 w5 (.cells #[] 34)))
      have hz5 := SZ.out _ N5.out
      have O4 := Lib.hid (own_mono (own_none2 w5) hz5)
      have O5 := Lib.hid (World.ownsRow.alloc O5.out (.cells #[] 34))
      refine hK.out _ _ ?_ (fun hHeld => ?_)
      · exact KT.out _ N5a.out
      clear hK K
      refine wpAnyH_ready (rs := [6]) (by kernel_rfl) (by simp) ?_
      refine AllReadyH.cons rfl (fun K hK => ?_) AllReadyH.nil
      go_simp
      obtain ⟨is', ik', e5', ii5⟩ := own_ints O5.out
      cases e5'
      go_wp2_with (go_at_call 45; refine (E2.out _ is ik zs N5a.out ii5 hzs).mono ?_; rintro e w6 ⟨x6, y6, z6, ps6, pk6, pl, rfl, hpl, hp6, b6⟩)
      have N6 := Lib.hid (N5a.out.trans (Only.of_below b6))
      have S6 := Lib.hid (S5a.out.below b6)
      have P6 := Lib.hid hp6
      have hfd : ∀ w : World, (Instr.field 70 (.agg #[.int .i64 x6, .slice ps6 pl.length pk6, .int .i64 y6, .int .i64 z6]) 1).run Try.prog w = .ok (.slice ps6 pl.length pk6) w := fun _ => by kernel_rfl
      have O6 := Lib.hid (own_below O4.out b6)
      clear hp6 b6 ii5 O5
      refine hK.out _ _ ?_ (fun hHeld => ?_)
      · exact KT.out _ N6.out
      clear hK K
      refine wpAnyH_take (i := 7) (oi := _) (v := ?_) rfl (by kernel_rfl) (by kernel_rfl) (by kernel_rfl) (fun _ _ _ h => h) (Or.inl ⟨by rfl, ?_⟩) (by assumption) ?_
      rotate_left
      · first | (intro w hSw; (try dsimp only at hSw); go_simp; done) | (intro w hSw; (try dsimp only at hSw); go_simp; with_reducible rfl)
      try simp only [Act.put, List.setIfInBounds_toArray, List.set_cons_zero, List.set_cons_succ, List.getElem_toArray, List.getElem_cons_succ, List.getElem_cons_zero]
      clear hfd
      refine wpAnyH_ready (rs := [8]) (by kernel_rfl) (by simp) ?_
      refine AllReadyH.cons rfl (fun K hK => ?_) AllReadyH.nil
      have hz8 := SZ.out _ N6.out
      obtain ⟨v8, w8, hr8, ow8, gr8, lo8⟩ := appP O6.out pk6 P6.out (by omega) (by simp; omega)
      have N8 := Lib.hid (GR.out _ _ _ N6.out gr8 lo8)
      have S8 := Lib.hid (S6.out.grown gr8 (fun j hj => by have := lo8 j hj; omega))
      rw [List.nil_append] at ow8
      obtain ⟨vs8, vk8, rfl⟩ := own_v ow8
      have O8 := Lib.hid ow8
      have hr8' := hr8 27
      refine step_append_run _ rfl (.tmp 8) (.tmp 15) 27 27 rfl _ _ (by simp [Act.eval]) (by simp [Act.eval]) _ _ hr8' ?_
      refine hK.out _ _ ?_ (fun hHeld => ?_)
      · exact KT.out _ N8.out
      clear hK K
      try simp only [Act.put, List.setIfInBounds_toArray, List.set_cons_zero, List.set_cons_succ, List.getElem_toArray, List.getElem_cons_succ, List.getElem_cons_zero]
      clear hr8 hr8' gr8 lo8 ow8 
      refine wpAnyH_take (i := 9) (oi := _) (v := ?_) rfl (by kernel_rfl) (by kernel_rfl) (by kernel_rfl) (fun _ _ _ h => h) (Or.inl ⟨by rfl, ?_⟩) (by assumption) ?_
      rotate_left
      · first | (intro w hSw; (try dsimp only at hSw); go_simp; done) | (intro w hSw; (try dsimp only at hSw); go_simp; with_reducible rfl)
      try simp only [Act.put, List.setIfInBounds_toArray, List.set_cons_zero, List.set_cons_succ, List.getElem_toArray, List.getElem_cons_succ, List.getElem_cons_zero]
      refine wpAnyH_done (by kernel_rfl) ?_ _
      clear N5 S5 N6 S6 P6
      go_wp2_with fail
      refine (oneB_any B b 3 w8 (by decide) S8.out).mono ?_
      rintro e wa ⟨t, rfl, sa, oa⟩
      have SA := Lib.hid sa
      have NA := Lib.hid (N8.out.trans oa)
      have OA := Lib.hid (own_only O8.out oa (by omega))
      clear sa oa S8 N8 O8
      cases t with
      | false =>
        go_wp2_with fail
        refine (oneB_any B b 20 _ (by decide) SA.out).mono ?_
        rintro e wt ⟨t, rfl, st, ot⟩
        have ST := Lib.hid st
        have NT := Lib.hid (NA.out.trans ot)
        have OT := Lib.hid (own_only OA.out ot (by omega))
        clear st ot
        cases t with
        | true =>
          go_wp2_with fail
          refine (nB_lt B b 9 wt (by decide) (by decide) ST.out).mono ?_
          rintro e wu ⟨r, rfl, r0, r1, su, ou⟩
          have NU := Lib.hid (NT.out.trans ou)
          have SU := Lib.hid su
          have OU := Lib.hid (own_only OT.out ou (by omega))
          have hzu := SZ.out _ NU.out
          clear su ou ST NT OT
          obtain ⟨v9, w9, hr9, ow9, gr9, lo9⟩ := appP (OU.out.alloc (.cells #[.int .i64 r, .int .i64 2] 34)) 1 (pls_one (new_at wu _)) (by simp; omega) (by simp; omega)
          have N9 := Lib.hid (OX.out _ (GR.out _ _ _ (NU.out.trans (Only.of_below (bA0 wu (.cells #[.int .i64 r, .int .i64 2] 34)))) gr9 lo9))
          have S9 := Lib.hid ((SU.out.below (bA0 wu (.cells #[.int .i64 r, .int .i64 2] 34))).grown gr9 (fun j hj => by have := lo9 j hj; omega))
          have O9 := Lib.hid (own_mono ow9 (show w.heap.size ≤ w.heap.size + 1 by omega))
          have hr9' := hr9 27
          clear hr9 gr9 lo9 ow9
          go_wp2_with (at_builtin; refine Lib.wpList_append_run _ rfl _ _ _ _ rfl _ _ rfl rfl _ _ hr9' ?_)
          go_ret
          exact ⟨_, pl ++ [(r, 2)], rfl, by simp; omega, O9.out, S9.out, N9.out⟩
        | false =>
          have O9 := Lib.hid (own_mono OT.out (show w.heap.size ≤ w.heap.size + 1 by omega))
          have N9 := Lib.hid (OX.out _ NT.out)
          clear OT NT
          go_wp2
          go_ret
          exact ⟨_, pl, rfl, by omega, O9.out, ST.out, N9.out⟩
      | true =>
        by_cases hl0 : pl.length = 0
        · have hl0' : ¬ (pl.length : Int) > 0 := by omega
          clear hl0
          go_wp2_with fail
          refine (oneB_any B b 20 _ (by decide) SA.out).mono ?_
          rintro e wt ⟨t, rfl, st, ot⟩
          have ST := Lib.hid st
          have NT := Lib.hid (NA.out.trans ot)
          have OT := Lib.hid (own_only OA.out ot (by omega))
          clear st ot
          cases t with
          | true =>
            go_wp2_with fail
            refine (nB_lt B b 9 wt (by decide) (by decide) ST.out).mono ?_
            rintro e wu ⟨r, rfl, r0, r1, su, ou⟩
            have NU := Lib.hid (NT.out.trans ou)
            have SU := Lib.hid su
            have OU := Lib.hid (own_only OT.out ou (by omega))
            have hzu := SZ.out _ NU.out
            clear su ou ST NT OT
            obtain ⟨v9, w9, hr9, ow9, gr9, lo9⟩ := appP (OU.out.alloc (.cells #[.int .i64 r, .int .i64 2] 34)) 1 (pls_one (new_at wu _)) (by simp; omega) (by simp; omega)
            have N9 := Lib.hid (OX.out _ (GR.out _ _ _ (NU.out.trans (Only.of_below (bA0 wu (.cells #[.int .i64 r, .int .i64 2] 34)))) gr9 lo9))
            have S9 := Lib.hid ((SU.out.below (bA0 wu (.cells #[.int .i64 r, .int .i64 2] 34))).grown gr9 (fun j hj => by have := lo9 j hj; omega))
            have O9 := Lib.hid (own_mono ow9 (show w.heap.size ≤ w.heap.size + 1 by omega))
            have hr9' := hr9 27
            clear hr9 gr9 lo9 ow9
            go_wp2_with (at_builtin; refine Lib.wpList_append_run _ rfl _ _ _ _ rfl _ _ rfl rfl _ _ hr9' ?_)
            go_ret
            exact ⟨_, pl ++ [(r, 2)], rfl, by simp; omega, O9.out, S9.out, N9.out⟩
          | false =>
            have O9 := Lib.hid (own_mono OT.out (show w.heap.size ≤ w.heap.size + 1 by omega))
            have N9 := Lib.hid (OX.out _ NT.out)
            clear OT NT
            go_wp2
            go_ret
            exact ⟨_, pl, rfl, by omega, O9.out, ST.out, N9.out⟩
        · have hl0' : (pl.length : Int) > 0 := by omega
          clear hl0
          have hl1 : (1 : Int) ≤ (pl.length : Int) := by omega
          have hl2 : (pl.length : Int) ≤ 9223372036854775807 := by omega
          go_wp2_with fail
          refine (nB_lt B b (pl.length : Int) wa hl1 hl2 SA.out).mono ?_
          rintro e wb ⟨r, rfl, r0, r1, sb, ob⟩
          obtain ⟨j, rfl⟩ : ∃ j : Nat, r = (j : Int) := ⟨r.toNat, by omega⟩
          have hj : j < pl.length := by omega
          have SB := Lib.hid sb
          have NB := Lib.hid (NA.out.trans ob)
          have OB := Lib.hid (own_only OA.out ob (by omega))
          clear sb ob SA NA OA
          go_wp2_with fail
          refine (nB_lt B b 6 wb (by decide) (by decide) SB.out).mono ?_
          rintro e wc ⟨q, rfl, q0, q1, sc, oc⟩
          have SC := Lib.hid sc
          have NC := Lib.hid (NB.out.trans oc)
          have OC := Lib.hid (own_only OB.out oc (by omega))
          clear sc oc SB NB OB
          obtain ⟨g, gk, eg, hg, hgl, ⟨y, hy⟩, hfz, hput⟩ := pl_put OC.out j hj
          cases eg
          obtain ⟨pl', hpl', od⟩ := hput (2 + q)
          have OD := Lib.hid od
          have ND := Lib.hid (PS.out _ g (j * 2 + 1) (.int .i64 (2 + q)) NC.out hg)
          have SD := Lib.hid (SC.out.set g (by omega) (j * 2 + 1) (.int .i64 (2 + q)))
          have hpl4 : pl'.length ≤ 400 := by omega
          clear hput od SC NC OC
          clear hpl'
          go_wp2_with fail
          refine (oneB_any B b 20 _ (by decide) SD.out).mono ?_
          rintro e wt ⟨t, rfl, st, ot⟩
          have ST := Lib.hid st
          have NT := Lib.hid (ND.out.trans ot)
          have OT := Lib.hid (own_only OD.out ot (by omega))
          clear st ot
          cases t with
          | true =>
            go_wp2_with fail
            refine (nB_lt B b 9 wt (by decide) (by decide) ST.out).mono ?_
            rintro e wu ⟨r, rfl, r0, r1, su, ou⟩
            have NU := Lib.hid (NT.out.trans ou)
            have SU := Lib.hid su
            have OU := Lib.hid (own_only OT.out ou (by omega))
            have hzu := SZ.out _ NU.out
            clear su ou ST NT OT
            obtain ⟨v9, w9, hr9, ow9, gr9, lo9⟩ := appP (OU.out.alloc (.cells #[.int .i64 r, .int .i64 2] 34)) 1 (pls_one (new_at wu _)) (by simp; omega) (by simp; omega)
            have N9 := Lib.hid (OX.out _ (GR.out _ _ _ (NU.out.trans (Only.of_below (bA0 wu (.cells #[.int .i64 r, .int .i64 2] 34)))) gr9 lo9))
            have S9 := Lib.hid ((SU.out.below (bA0 wu (.cells #[.int .i64 r, .int .i64 2] 34))).grown gr9 (fun j hj => by have := lo9 j hj; omega))
            have O9 := Lib.hid (own_mono ow9 (show w.heap.size ≤ w.heap.size + 1 by omega))
            have hr9' := hr9 27
            clear hr9 gr9 lo9 ow9
            go_wp2_with (at_builtin; refine Lib.wpList_append_run _ rfl _ _ _ _ rfl _ _ rfl rfl _ _ hr9' ?_)
            go_ret
            exact ⟨_, pl' ++ [(r, 2)], rfl, by simp; omega, O9.out, S9.out, N9.out⟩
          | false =>
            have O9 := Lib.hid (own_mono OT.out (show w.heap.size ≤ w.heap.size + 1 by omega))
            have N9 := Lib.hid (OX.out _ NT.out)
            clear OT NT
            go_wp2
            go_ret
            exact ⟨_, pl', rfl, by omega, O9.out, ST.out, N9.out⟩
    · go_simp
      obtain ⟨is', ik', e5', ii5⟩ := own_ints O5.out
      cases e5'
      go_wp2_with (go_at_call 45; refine (E2.out _ is ik zs N5.out ii5 hzs).mono ?_; rintro e w6 ⟨x6, y6, z6, ps6, pk6, pl, rfl, hpl, hp6, b6⟩)
      have N6 := Lib.hid (N5.out.trans (Only.of_below b6))
      have S6 := Lib.hid (S5.out.below b6)
      have P6 := Lib.hid hp6
      have hfd : ∀ w : World, (Instr.field 70 (.agg #[.int .i64 x6, .slice ps6 pl.length pk6, .int .i64 y6, .int .i64 z6]) 1).run Try.prog w = .ok (.slice ps6 pl.length pk6) w := fun _ => by kernel_rfl
      clear hp6 b6 ii5 O5
      refine hK.out _ _ ?_ (fun hHeld => ?_)
      · exact KT.out _ N6.out
      clear hK K
      refine wpAnyH_take (i := 7) (oi := _) (v := ?_) rfl (by kernel_rfl) (by kernel_rfl) (by kernel_rfl) (fun _ _ _ h => h) (Or.inl ⟨by rfl, ?_⟩) (by assumption) ?_
      rotate_left
      · first | (intro w hSw; (try dsimp only at hSw); go_simp; done) | (intro w hSw; (try dsimp only at hSw); go_simp; with_reducible rfl)
      try simp only [Act.put, List.setIfInBounds_toArray, List.set_cons_zero, List.set_cons_succ, List.getElem_toArray, List.getElem_cons_succ, List.getElem_cons_zero]
      clear hfd
      refine wpAnyH_ready (rs := [0]) (by kernel_rfl) (by simp) ?_
      refine AllReadyH.cons rfl (fun K hK => ?_) AllReadyH.nil
      go_simp
      have N7 := Lib.hid (N6.out.trans (Only.of_below (bA0 w6 (.cells #[] 34))))
      have S7 := Lib.hid (S6.out.below (bA0 w6 (.cells #[] 34)))
      have P7 := Lib.hid (Pls.below P6.out (bA0 w6 (.cells #[] 34)))
      have hz6 := SZ.out _ N6.out
      have O6 := Lib.hid (own_mono (own_none2 w6) hz6)
      refine hK.out _ _ ?_ (fun hHeld => ?_)
      · exact KT.out _ N7.out
      clear hK K
      refine wpAnyH_ready (rs := [8]) (by kernel_rfl) (by simp) ?_
      refine AllReadyH.cons rfl (fun K hK => ?_) AllReadyH.nil
      have hz8 := SZ.out _ N7.out
      obtain ⟨v8, w8, hr8, ow8, gr8, lo8⟩ := appP O6.out pk6 P7.out (by omega) (by simp; omega)
      have N8 := Lib.hid (GR.out _ _ _ N7.out gr8 lo8)
      have S8 := Lib.hid (S7.out.grown gr8 (fun j hj => by have := lo8 j hj; omega))
      rw [List.nil_append] at ow8
      obtain ⟨vs8, vk8, rfl⟩ := own_v ow8
      have O8 := Lib.hid ow8
      have hr8' := hr8 27
      refine step_append_run _ rfl (.tmp 8) (.tmp 15) 27 27 rfl _ _ (by simp [Act.eval]) (by simp [Act.eval]) _ _ hr8' ?_
      refine hK.out _ _ ?_ (fun hHeld => ?_)
      · exact KT.out _ N8.out
      clear hK K
      try simp only [Act.put, List.setIfInBounds_toArray, List.set_cons_zero, List.set_cons_succ, List.getElem_toArray, List.getElem_cons_succ, List.getElem_cons_zero]
      clear hr8 hr8' gr8 lo8 ow8 
      refine wpAnyH_take (i := 9) (oi := _) (v := ?_) rfl (by kernel_rfl) (by kernel_rfl) (by kernel_rfl) (fun _ _ _ h => h) (Or.inl ⟨by rfl, ?_⟩) (by assumption) ?_
      rotate_left
      · first | (intro w hSw; (try dsimp only at hSw); go_simp; done) | (intro w hSw; (try dsimp only at hSw); go_simp; with_reducible rfl)
      try simp only [Act.put, List.setIfInBounds_toArray, List.set_cons_zero, List.set_cons_succ, List.getElem_toArray, List.getElem_cons_succ, List.getElem_cons_zero]
      refine wpAnyH_done (by kernel_rfl) ?_ _
      clear N5 S5 N6 S6 P6
      go_wp2_with fail
      refine (oneB_any B b 3 w8 (by decide) S8.out).mono ?_
      rintro e wa ⟨t, rfl, sa, oa⟩
      have SA := Lib.hid sa
      have NA := Lib.hid (N8.out.trans oa)
      have OA := Lib.hid (own_only O8.out oa (by omega))
      clear sa oa S8 N8 O8
      cases t with
      | false =>
        go_wp2_with fail
        refine (oneB_any B b 20 _ (by decide) SA.out).mono ?_
        rintro e wt ⟨t, rfl, st, ot⟩
        have ST := Lib.hid st
        have NT := Lib.hid (NA.out.trans ot)
        have OT := Lib.hid (own_only OA.out ot (by omega))
        clear st ot
        cases t with
        | true =>
          go_wp2_with fail
          refine (nB_lt B b 9 wt (by decide) (by decide) ST.out).mono ?_
          rintro e wu ⟨r, rfl, r0, r1, su, ou⟩
          have NU := Lib.hid (NT.out.trans ou)
          have SU := Lib.hid su
          have OU := Lib.hid (own_only OT.out ou (by omega))
          have hzu := SZ.out _ NU.out
          clear su ou ST NT OT
          obtain ⟨v9, w9, hr9, ow9, gr9, lo9⟩ := appP (OU.out.alloc (.cells #[.int .i64 r, .int .i64 2] 34)) 1 (pls_one (new_at wu _)) (by simp; omega) (by simp; omega)
          have N9 := Lib.hid (OX.out _ (GR.out _ _ _ (NU.out.trans (Only.of_below (bA0 wu (.cells #[.int .i64 r, .int .i64 2] 34)))) gr9 lo9))
          have S9 := Lib.hid ((SU.out.below (bA0 wu (.cells #[.int .i64 r, .int .i64 2] 34))).grown gr9 (fun j hj => by have := lo9 j hj; omega))
          have O9 := Lib.hid (own_mono ow9 (show w.heap.size ≤ w.heap.size + 1 by omega))
          have hr9' := hr9 27
          clear hr9 gr9 lo9 ow9
          go_wp2_with (at_builtin; refine Lib.wpList_append_run _ rfl _ _ _ _ rfl _ _ rfl rfl _ _ hr9' ?_)
          go_ret
          exact ⟨_, pl ++ [(r, 2)], rfl, by simp; omega, O9.out, S9.out, N9.out⟩
        | false =>
          have O9 := Lib.hid (own_mono OT.out (show w.heap.size ≤ w.heap.size + 1 by omega))
          have N9 := Lib.hid (OX.out _ NT.out)
          clear OT NT
          go_wp2
          go_ret
          exact ⟨_, pl, rfl, by omega, O9.out, ST.out, N9.out⟩
      | true =>
        by_cases hl0 : pl.length = 0
        · have hl0' : ¬ (pl.length : Int) > 0 := by omega
          clear hl0
          go_wp2_with fail
          refine (oneB_any B b 20 _ (by decide) SA.out).mono ?_
          rintro e wt ⟨t, rfl, st, ot⟩
          have ST := Lib.hid st
          have NT := Lib.hid (NA.out.trans ot)
          have OT := Lib.hid (own_only OA.out ot (by omega))
          clear st ot
          cases t with
          | true =>
            go_wp2_with fail
            refine (nB_lt B b 9 wt (by decide) (by decide) ST.out).mono ?_
            rintro e wu ⟨r, rfl, r0, r1, su, ou⟩
            have NU := Lib.hid (NT.out.trans ou)
            have SU := Lib.hid su
            have OU := Lib.hid (own_only OT.out ou (by omega))
            have hzu := SZ.out _ NU.out
            clear su ou ST NT OT
            obtain ⟨v9, w9, hr9, ow9, gr9, lo9⟩ := appP (OU.out.alloc (.cells #[.int .i64 r, .int .i64 2] 34)) 1 (pls_one (new_at wu _)) (by simp; omega) (by simp; omega)
            have N9 := Lib.hid (OX.out _ (GR.out _ _ _ (NU.out.trans (Only.of_below (bA0 wu (.cells #[.int .i64 r, .int .i64 2] 34)))) gr9 lo9))
            have S9 := Lib.hid ((SU.out.below (bA0 wu (.cells #[.int .i64 r, .int .i64 2] 34))).grown gr9 (fun j hj => by have := lo9 j hj; omega))
            have O9 := Lib.hid (own_mono ow9 (show w.heap.size ≤ w.heap.size + 1 by omega))
            have hr9' := hr9 27
            clear hr9 gr9 lo9 ow9
            go_wp2_with (at_builtin; refine Lib.wpList_append_run _ rfl _ _ _ _ rfl _ _ rfl rfl _ _ hr9' ?_)
            go_ret
            exact ⟨_, pl ++ [(r, 2)], rfl, by simp; omega, O9.out, S9.out, N9.out⟩
          | false =>
            have O9 := Lib.hid (own_mono OT.out (show w.heap.size ≤ w.heap.size + 1 by omega))
            have N9 := Lib.hid (OX.out _ NT.out)
            clear OT NT
            go_wp2
            go_ret
            exact ⟨_, pl, rfl, by omega, O9.out, ST.out, N9.out⟩
        · have hl0' : (pl.length : Int) > 0 := by omega
          clear hl0
          have hl1 : (1 : Int) ≤ (pl.length : Int) := by omega
          have hl2 : (pl.length : Int) ≤ 9223372036854775807 := by omega
          go_wp2_with fail
          refine (nB_lt B b (pl.length : Int) wa hl1 hl2 SA.out).mono ?_
          rintro e wb ⟨r, rfl, r0, r1, sb, ob⟩
          obtain ⟨j, rfl⟩ : ∃ j : Nat, r = (j : Int) := ⟨r.toNat, by omega⟩
          have hj : j < pl.length := by omega
          have SB := Lib.hid sb
          have NB := Lib.hid (NA.out.trans ob)
          have OB := Lib.hid (own_only OA.out ob (by omega))
          clear sb ob SA NA OA
          go_wp2_with fail
          refine (nB_lt B b 6 wb (by decide) (by decide) SB.out).mono ?_
          rintro e wc ⟨q, rfl, q0, q1, sc, oc⟩
          have SC := Lib.hid sc
          have NC := Lib.hid (NB.out.trans oc)
          have OC := Lib.hid (own_only OB.out oc (by omega))
          clear sc oc SB NB OB
          obtain ⟨g, gk, eg, hg, hgl, ⟨y, hy⟩, hfz, hput⟩ := pl_put OC.out j hj
          cases eg
          obtain ⟨pl', hpl', od⟩ := hput (2 + q)
          have OD := Lib.hid od
          have ND := Lib.hid (PS.out _ g (j * 2 + 1) (.int .i64 (2 + q)) NC.out hg)
          have SD := Lib.hid (SC.out.set g (by omega) (j * 2 + 1) (.int .i64 (2 + q)))
          have hpl4 : pl'.length ≤ 400 := by omega
          clear hput od SC NC OC
          clear hpl'
          go_wp2_with fail
          refine (oneB_any B b 20 _ (by decide) SD.out).mono ?_
          rintro e wt ⟨t, rfl, st, ot⟩
          have ST := Lib.hid st
          have NT := Lib.hid (ND.out.trans ot)
          have OT := Lib.hid (own_only OD.out ot (by omega))
          clear st ot
          cases t with
          | true =>
            go_wp2_with fail
            refine (nB_lt B b 9 wt (by decide) (by decide) ST.out).mono ?_
            rintro e wu ⟨r, rfl, r0, r1, su, ou⟩
            have NU := Lib.hid (NT.out.trans ou)
            have SU := Lib.hid su
            have OU := Lib.hid (own_only OT.out ou (by omega))
            have hzu := SZ.out _ NU.out
            clear su ou ST NT OT
            obtain ⟨v9, w9, hr9, ow9, gr9, lo9⟩ := appP (OU.out.alloc (.cells #[.int .i64 r, .int .i64 2] 34)) 1 (pls_one (new_at wu _)) (by simp; omega) (by simp; omega)
            have N9 := Lib.hid (OX.out _ (GR.out _ _ _ (NU.out.trans (Only.of_below (bA0 wu (.cells #[.int .i64 r, .int .i64 2] 34)))) gr9 lo9))
            have S9 := Lib.hid ((SU.out.below (bA0 wu (.cells #[.int .i64 r, .int .i64 2] 34))).grown gr9 (fun j hj => by have := lo9 j hj; omega))
            have O9 := Lib.hid (own_mono ow9 (show w.heap.size ≤ w.heap.size + 1 by omega))
            have hr9' := hr9 27
            clear hr9 gr9 lo9 ow9
            go_wp2_with (at_builtin; refine Lib.wpList_append_run _ rfl _ _ _ _ rfl _ _ rfl rfl _ _ hr9' ?_)
            go_ret
            exact ⟨_, pl' ++ [(r, 2)], rfl, by simp; omega, O9.out, S9.out, N9.out⟩
          | false =>
            have O9 := Lib.hid (own_mono OT.out (show w.heap.size ≤ w.heap.size + 1 by omega))
            have N9 := Lib.hid (OX.out _ NT.out)
            clear OT NT
            go_wp2
            go_ret
            exact ⟨_, pl', rfl, by omega, O9.out, ST.out, N9.out⟩
end Go.Proofs.Ytdmfljejlhlbnaa
namespace Go.Proofs.Ytdmfljejlhlbnaa
open Go.RowKit
set_option linter.unusedVariables false

/-- What is drawn. -/
def DpPost (w : World) (e : Ending) (w' : World) : Prop :=
  ∃ (s1 : Option Addr) (c1 : Nat) (s2 : Option Addr) (c2 : Nat) (rs : List LSt) (ps : List LPr) (top : Int) (v : Value) (pl : List LPl) (id : Int), e = .returned (.tuple #[TV s1 rs.length c1 s2 ps.length c2, .int .i64 top, v, .int .i64 id]) ∧ rs.length ≤ 14 ∧ (∀ p ∈ ps, WfP p) ∧ Sts w' s1 rs ∧ Prs w' s2 ps ∧ pl.length ≤ 401 ∧ (∃ C, C ≤ w'.heap.size ∧ w'.ownsRow C 34 2 v pl.length (enCells pl)) ∧ Below w.heap.size w w'
/-- All but two blocks are as they were. -/
structure But2 (b r : Nat) (u v : World) : Prop where
  size : u.heap.size ≤ v.heap.size
  block : ∀ k, k < u.heap.size → k ≠ b → k ≠ r → v.heap[k]? = u.heap[k]?
theorem But2.of {b r : Nat} {u v : World} (h : Only b u v) : But2 b r u v := ⟨h.size, fun k hk hb _ => h.block k hk hb⟩
theorem But2.trans {b r : Nat} {u v w : World} (h : But2 b r u v) (g : But2 b r v w) : But2 b r u w := ⟨Nat.le_trans h.size g.size, fun k hk hb hr => (g.block k (Nat.lt_of_lt_of_le hk h.size) hb hr).trans (h.block k hk hb hr)⟩
theorem But2.set {b r : Nat} {u v : World} (h : But2 b r u v) (o : Nat) (x : Value) : But2 b r u (v.setCell ⟨r, o, none⟩ x) := ⟨by simpa [World.setCell] using h.size, fun k hk hb hr => (Below.heap_setCell _ _ _ _ (by show k ≠ r; omega)).trans (h.block k hk hb hr)⟩

theorem SrcB.setRes2 {B b : Nat} {W : World} (h : SrcB B W b) (r : Nat) (hr : r ≠ b) (hR : W.heap[r]? = some (.cells #[.slice none 0 0, .slice none 0 0] 26)) (x y : Value) : SrcB B ((W.setCell ⟨r, 0, none⟩ x).setCell ⟨r, 1, none⟩ y) b := by
  have keep : ∀ k, k ≠ r → ((W.setCell ⟨r, 0, none⟩ x).setCell ⟨r, 1, none⟩ y).heap[k]? = W.heap[k]? := fun k hk => (Below.heap_setCell _ _ _ _ hk).trans (Below.heap_setCell _ _ _ _ hk)
  have hsz : ((W.setCell ⟨r, 0, none⟩ x).setCell ⟨r, 1, none⟩ y).heap.size = W.heap.size := by simp [World.setCell]
  obtain ⟨h0, h1, sl, len, cap, k, mix, sz, h, hb, hB, hkl, rest⟩ := h
  refine ⟨h0, by rw [hsz]; exact h1, sl, len, cap, k, mix, sz, (keep b (fun e => hr e.symm)).trans h, fun i hi => ?_, hB, hkl, rest⟩
  obtain ⟨c, o, z, e, hc, hlt, y1, y2, hz⟩ := hb i hi
  have hcr : c ≠ r := by
    rintro rfl
    have hz' : (#[Value.slice none 0 0, Value.slice none 0 0] : Array Value)[o + i]? = some (.int .u8 z) := by
      have := hz
      simpa [World.cell?, hR] using this
    rcases Nat.lt_or_ge (o + i) 2 with h2 | h2
    · have : o + i = 0 ∨ o + i = 1 := by omega
      rcases this with h3 | h3 <;> rw [h3] at hz' <;> simp at hz'
    · rw [Array.getElem?_eq_none (by simpa using h2)] at hz'; cases hz'
  exact ⟨c, o, z, e, hc, by rw [hsz]; exact hlt, y1, y2, (World.cell?_of_block (w := W) (keep c hcr)).trans hz⟩

set_option maxRecDepth 100000 in
set_option maxHeartbeats 8000000 in
/-- spec.DrawPlanAdd. -/
theorem dpa_any (sl : Option Addr) (len cap : Nat) (w : World) (hr : RowIn w sl len) :
    Calls Try.prog 14 #[.slice sl len cap] w fun e w' => DpPost w e w' := by
  have HS := Lib.hid (source_any sl len cap (w.alloc (.cells #[.slice none 0 0, .slice none 0 0] 26)) (hr.below (bA0 _ _)))
  have R0 := Lib.hid (new_at w (.cells #[.slice none 0 0, .slice none 0 0] 26))
  have B0 := Lib.hid (bA0 w (.cells #[.slice none 0 0, .slice none 0 0] 26))
  have hz : (w.alloc (.cells #[.slice none 0 0, .slice none 0 0] 26)).heap.size = w.heap.size + 1 := by simp
  clear hr
  go_enter Try.func14, Try.ntmps14
  go_wp2_with fail
  generalize w.alloc (.cells #[.slice none 0 0, .slice none 0 0] 26) = w0 at *
  refine HS.out.mono ?_
  rintro e w1 ⟨rfl, s1, b1⟩
  rw [hz] at s1 b1
  have T1 := Lib.hid (tab_any (w.heap.size + 1) w1 s1)
  have B1 := Lib.hid (B0.out.trans (b1.mono (by omega)))
  have R1 := Lib.hid ((b1.block w.heap.size (by omega)).trans R0.out)
  have h1z : w.heap.size + 1 < w1.heap.size := s1.lt
  clear s1 b1 HS R0 B0
  rw [hz]
  go_wp2_with fail
  refine T1.out.mono ?_
  rintro e w2 ⟨sl1, cap1, sl2, cap2, rs, ps, rfl, h1, h2, hw, sr, ho, hk⟩
  have R2 := Lib.hid ((ho.block w.heap.size (by omega) (by omega)).trans R1.out)
  have hs2 := ho.size
  have B2 : Hid (Below w.heap.size w w2) := ho.below B1.out (by omega)
  have SB3 := Lib.hid ((SrcB.of sr).below (bA0 w2 (.cells #[.slice sl1 rs.length cap1, .slice sl2 ps.length cap2] 26)))
  have N3 : Hid (Only (w.heap.size + 1) w2 (w2.alloc (.cells #[.slice sl1 rs.length cap1, .slice sl2 ps.length cap2] 26))) := Only.of_below (bA0 w2 (.cells #[.slice sl1 rs.length cap1, .slice sl2 ps.length cap2] 26))
  have K : Hid (∀ W, But2 (w.heap.size + 1) w.heap.size w2 W → Sts W sl1 rs ∧ Prs W sl2 ps) := fun W a => hk W a.size (fun k k1 k2 => a.block k k2 (by omega) (by omega))
  have TB := Lib.hid (TabAt.new w2 sl1 rs.length cap1 sl2 ps.length cap2)
  have LP : Hid (∀ top W, Only (w.heap.size + 1) w2 W → SrcB w2.heap.size W (w.heap.size + 1) → Calls Try.prog 66 #[.pointer (some ⟨w.heap.size + 1, 0, none⟩), TV sl1 rs.length cap1 sl2 ps.length cap2, .int .i64 top] W fun e w' => ∃ v pl, e = .returned v ∧ List.length pl ≤ 401 ∧ w'.ownsRow W.heap.size 34 2 v pl.length (enCells pl) ∧ SrcB w2.heap.size w' (w.heap.size + 1) ∧ Only (w.heap.size + 1) W w') := fun top W h1' h2' => lplan_any w2.heap.size (w.heap.size + 1) sl1 cap1 sl2 cap2 rs ps top W h1 h2' (fun W' h' => K.out W' (But2.of (h1'.trans h')))
  have HW := Lib.hid hw
  clear sr ho hk T1 R1 B1 hw
  generalize hN : rs.length = n at *
  have HN := Lib.hid hN
  clear hN
  generalize hMM : ps.length = m at *
  have HM := Lib.hid hMM
  clear hMM
  go_wp2_with fail
  generalize w2.alloc (.cells #[.slice sl1 n cap1, .slice sl2 m cap2] 26) = w3 at *
  refine (top_any w2.heap.size (w.heap.size + 1) w3 SB3.out).mono ?_
  rintro e w4 ⟨top, rfl, s4, o4⟩
  have N4 := Lib.hid (N3.out.trans o4)
  have T4 : Hid (TabAt w4 w2.heap.size sl1 n cap1 sl2 m cap2) := (o4.block w2.heap.size TB.out.lt (by omega)).trans TB.out
  have L4 := Lib.hid (LP.out top w4 N4.out s4)
  clear s4 o4 N3 TB SB3 LP
  obtain ⟨t0, t1⟩ := T4.out.cells
  have tl := T4.out.lt
  go_wp2_with fail
  refine L4.out.mono ?_
  rintro e w5 ⟨v, pl, rfl, hpl, o5, s5, n5⟩
  have N5 := Lib.hid (N4.out.trans n5)
  have T5 : Hid (TabAt w5 w2.heap.size sl1 n cap1 sl2 m cap2) := (n5.block w2.heap.size T4.out.lt (by omega)).trans T4.out
  have R5 : Hid (w5.heap[w.heap.size]? = some (.cells #[.slice none 0 0, .slice none 0 0] 26)) := (N5.out.block w.heap.size (by omega) (by omega)).trans R2.out
  obtain ⟨vs, vk, rfl⟩ := own_v o5
  have S5 := Lib.hid s5
  have B5 : Hid (Below w.heap.size w w5) := N5.out.below B2.out (by omega)
  have K5 : Hid (∀ W, But2 (w.heap.size + 1) w.heap.size w5 W → Sts W sl1 rs ∧ Prs W sl2 ps) := fun W a => K.out W ((But2.of N5.out).trans a)
  have hs4 := N4.out.size
  have hs45 := n5.size
  have FIN : Hid (∀ W id, But2 (w.heap.size + 1) w.heap.size w5 W → Below w.heap.size w W → DpPost w (.returned (.tuple #[TV sl1 n cap1 sl2 m cap2, .int .i64 top, .slice vs pl.length vk, .int .i64 id])) W) := fun W id a bl => by
    obtain ⟨x1, x2⟩ := K5.out W a
    refine ⟨sl1, cap1, sl2, cap2, rs, ps, top, .slice vs pl.length vk, pl, id, by rw [HN.out, HM.out], by rw [HN.out]; exact h1, HW.out, x1, x2, hpl, ⟨w4.heap.size, by have := a.size; omega, own_keep o5 (fun j hj => ?_)⟩, bl⟩
    have hj1 := own_base o5 hj
    have hj2 := (o5.lt j hj).2
    exact a.block j hj2 (by omega) (by omega)
  have TX : Hid (∀ W, But2 (w.heap.size + 1) w.heap.size w5 W → w2.heap.size < W.heap.size ∧ W.cell? ⟨w2.heap.size, 0, none⟩ = some (.slice sl1 n cap1) ∧ W.cell? ⟨w2.heap.size, 1, none⟩ = some (.slice sl2 m cap2)) := fun W a => by
    have : TabAt W w2.heap.size sl1 n cap1 sl2 m cap2 := (a.block w2.heap.size T5.out.lt (by omega) (by omega)).trans T5.out
    exact ⟨this.lt, this.cells⟩
  clear L4 T4 t0 t1 tl o5 s5 n5 N4 K R2 HM B2
  generalize pl.length = pn at *
  obtain ⟨t0, t1⟩ := T5.out.cells
  have tl := T5.out.lt
  have c0 : w5.cell? ⟨w.heap.size, 0, none⟩ = some (.slice none 0 0) := by simp [World.cell?, R5.out]
  have c1 : w5.cell? ⟨w.heap.size, 1, none⟩ = some (.slice none 0 0) := by simp [World.cell?, R5.out]
  have f0 : w5.frozen? ⟨w.heap.size, 0, none⟩ = false := by simp [World.frozen?, R5.out]
  have f1 : w5.frozen? ⟨w.heap.size, 1, none⟩ = false := by simp [World.frozen?, R5.out]
  have lt5 : w.heap.size < w5.heap.size := by omega
  by_cases hl0 : n = 0
  · have hl0' : ((n : Int) == 0) = true := by rw [hl0]; rfl
    have R7 := heap_setCell_same _ w.heap.size 1 _ 26 (.slice sl2 m cap2) (heap_setCell_same w5 w.heap.size 0 _ 26 (.slice sl1 n cap1) R5.out)
    have e5 : ((w5.setCell ⟨w.heap.size, 0, none⟩ (.slice sl1 n cap1)).setCell ⟨w.heap.size, 1, none⟩ (.slice sl2 m cap2)).cell? ⟨w.heap.size, 0, none⟩ = some (.slice sl1 n cap1) := by simp [World.cell?, R7]
    have e6 : ((w5.setCell ⟨w.heap.size, 0, none⟩ (.slice sl1 n cap1)).setCell ⟨w.heap.size, 1, none⟩ (.slice sl2 m cap2)).cell? ⟨w.heap.size, 1, none⟩ = some (.slice sl2 m cap2) := by simp [World.cell?, R7]
    have P := Lib.hid (FIN.out ((w5.setCell ⟨w.heap.size, 0, none⟩ (.slice sl1 n cap1)).setCell ⟨w.heap.size, 1, none⟩ (.slice sl2 m cap2)) 1 (((But2.of (Only.refl _ _)).set 0 _).set 1 _) ((B5.out.setCell (Nat.le_refl _) _).setCell (Nat.le_refl _) _))
    clear R7 FIN K5 TX hl0 HN
    go_wp2
    exact bodyPost_ret (v := .tuple #[.agg #[.slice sl1 n cap1, .slice sl2 m cap2], .int .i64 top, .slice vs pn vk, .int .i64 1]) (by simp [results, Try.results14, go_sem, e5, e6]) rfl P.out
  · have hl0' : ((n : Int) == 0) = false := beq_eq_false_iff_ne.2 (by omega)
    have hn1 : (1 : Int) ≤ (n : Int) := by omega
    obtain ⟨sc, so, rfl⟩ : ∃ sc so, sl1 = some ⟨sc, so, none⟩ := by
      rcases (K5.out w5 (But2.of (Only.refl _ _))).1.1 with e | ⟨c, o, e, _⟩
      · rw [e] at HN; exact absurd HN.out.symm hl0
      · exact ⟨c, o, e⟩
    have KX : Hid (∀ W, But2 (w.heap.size + 1) w.heap.size w5 W → (w2.heap.size < W.heap.size ∧ W.cell? ⟨w2.heap.size, 0, none⟩ = some (.slice (some ⟨sc, so, none⟩) n cap1) ∧ W.cell? ⟨w2.heap.size, 1, none⟩ = some (.slice sl2 m cap2)) ∧ sc < W.heap.size ∧ ∀ i, i < n → W.cell? ⟨sc, so + i * 3, none⟩ = some (.int .i64 ((idsL rs).getD i 0))) := fun W a => by
      refine ⟨TX.out W a, ?_⟩
      rcases (K5.out W a).1.1 with e | ⟨c, o, e, st⟩
      · rw [e] at HN; exact absurd HN.out.symm hl0
      · cases e
        refine ⟨st.lt, fun i hi => ?_⟩
        have hi' : i < rs.length := by rw [HN.out]; exact hi
        rw [(st.cell i hi').1]
        simp [idsL, hi']
    have D0 : Hid (But2 (w.heap.size + 1) w.heap.size w5 w5.drew) := ⟨Nat.le_refl _, fun _ _ _ _ => rfl⟩
    have BD : Hid (Below w.heap.size w w5.drew) := B5.out.drew
    have SD : Hid (SrcB w2.heap.size w5.drew (w.heap.size + 1)) := ⟨S5.out.1, S5.out.2.1, S5.out.2.2⟩
    have RD : Hid (w5.drew.heap[w.heap.size]? = some (.cells #[.slice none 0 0, .slice none 0 0] 26)) := R5
    clear hl0 HN K5 TX
    go_wp2_with fail
    refine wp_region_held_drew (S := fun W => (w2.heap.size < W.heap.size ∧ W.cell? ⟨w2.heap.size, 0, none⟩ = some (.slice (some ⟨sc, so, none⟩) n cap1) ∧ W.cell? ⟨w2.heap.size, 1, none⟩ = some (.slice sl2 m cap2)) ∧ sc < W.heap.size ∧ ∀ i, i < n → W.cell? ⟨sc, so + i * 3, none⟩ = some (.int .i64 ((idsL rs).getD i 0))) (by kernel_rfl) ?_ (fun hHeld => ?_)
    · exact KX.out _ D0.out
    clear t0 t1 tl c0 c1 f0 f1 lt5 T5 R5 S5 N5 B5
    refine wpAnyH_take (i := 0) (oi := _) (v := ?_) rfl (by kernel_rfl) (by kernel_rfl) (by kernel_rfl) (fun _ _ _ h => h) (Or.inl ⟨by rfl, ?_⟩) (by assumption) ?_
    rotate_left
    · first | (intro w hSw; (try dsimp only at hSw); go_simp; done) | (intro w hSw; (try dsimp only at hSw); go_simp; with_reducible rfl)
    try simp only [Act.put, List.setIfInBounds_toArray, List.set_cons_zero, List.set_cons_succ, List.getElem_toArray, List.getElem_cons_zero]
    refine wpAnyH_take (i := 1) (oi := _) (v := ?_) rfl (by kernel_rfl) (by kernel_rfl) (by kernel_rfl) (fun _ _ _ h => h) (Or.inl ⟨by rfl, ?_⟩) (by assumption) ?_
    rotate_left
    · first | (intro w hSw; (try dsimp only at hSw); go_simp; done) | (intro w hSw; (try dsimp only at hSw); go_simp; with_reducible rfl)
    try simp only [Act.put, List.setIfInBounds_toArray, List.set_cons_zero, List.set_cons_succ, List.getElem_toArray, List.getElem_cons_succ, List.getElem_cons_zero]
    refine wpAnyH_take (i := 2) (oi := _) (v := ?_) rfl (by kernel_rfl) (by kernel_rfl) (by kernel_rfl) (fun _ _ _ h => h) (Or.inl ⟨by rfl, ?_⟩) (by assumption) ?_
    rotate_left
    · first | (intro w hSw; (try dsimp only at hSw); go_simp; done) | (intro w hSw; (try dsimp only at hSw); go_simp; with_reducible rfl)
    try simp only [Act.put, List.setIfInBounds_toArray, List.set_cons_zero, List.set_cons_succ, List.getElem_toArray, List.getElem_cons_succ, List.getElem_cons_zero]
    refine wpAnyH_take (i := 3) (oi := _) (v := ?_) rfl (by kernel_rfl) (by kernel_rfl) (by kernel_rfl) (fun _ _ _ h => h) (Or.inl ⟨by rfl, ?_⟩) (by assumption) ?_
    rotate_left
    · first | (intro w hSw; (try dsimp only at hSw); go_simp; done) | (intro w hSw; (try dsimp only at hSw); go_simp; with_reducible rfl)
    try simp only [Act.put, List.setIfInBounds_toArray, List.set_cons_zero, List.set_cons_succ, List.getElem_toArray, List.getElem_cons_succ, List.getElem_cons_zero]
    refine wpAnyH_take (i := 4) (oi := _) (v := ?_) rfl (by kernel_rfl) (by kernel_rfl) (by kernel_rfl) (fun _ _ _ h => h) (Or.inl ⟨by rfl, ?_⟩) (by assumption) ?_
    rotate_left
    · first | (intro w hSw; (try dsimp only at hSw); go_simp; done) | (intro w hSw; (try dsimp only at hSw); go_simp; with_reducible rfl)
    try simp only [Act.put, List.setIfInBounds_toArray, List.set_cons_zero, List.set_cons_succ, List.getElem_toArray, List.getElem_cons_succ, List.getElem_cons_zero]
    refine wpAnyH_take (i := 5) (oi := _) (v := ?_) rfl (by kernel_rfl) (by kernel_rfl) (by kernel_rfl) (fun _ _ _ h => h) (Or.inl ⟨by rfl, ?_⟩) (by assumption) ?_
    rotate_left
    · first | (intro w hSw; (try dsimp only at hSw); go_simp; done) | (intro w hSw; (try dsimp only at hSw); go_simp; with_reducible rfl)
    try simp only [Act.put, List.setIfInBounds_toArray, List.set_cons_zero, List.set_cons_succ, List.getElem_toArray, List.getElem_cons_succ, List.getElem_cons_zero]
    refine wpAnyH_take (i := 6) (oi := _) (v := ?_) rfl (by kernel_rfl) (by kernel_rfl) (by kernel_rfl) (fun _ _ _ h => h) (Or.inl ⟨by rfl, ?_⟩) (by assumption) ?_
    rotate_left
    · first | (intro w hSw; (try dsimp only at hSw); go_simp; done) | (intro w hSw; (try dsimp only at hSw); go_simp; with_reducible rfl)
    try simp only [Act.put, List.setIfInBounds_toArray, List.set_cons_zero, List.set_cons_succ, List.getElem_toArray, List.getElem_cons_succ, List.getElem_cons_zero]
    refine wpAnyH_take (i := 7) (oi := _) (v := ?_) rfl (by kernel_rfl) (by kernel_rfl) (by kernel_rfl) (fun _ _ _ h => h) (Or.inl ⟨by rfl, ?_⟩) (by assumption) ?_
    rotate_left
    · first | (intro w hSw; (try dsimp only at hSw); go_simp; done) | (intro w hSw; (try dsimp only at hSw); go_simp; with_reducible rfl)
    try simp only [Act.put, List.setIfInBounds_toArray, List.set_cons_zero, List.set_cons_succ, List.getElem_toArray, List.getElem_cons_succ, List.getElem_cons_zero]
    refine wpAnyH_take (i := 8) (oi := _) (v := ?_) rfl (by kernel_rfl) (by kernel_rfl) (by kernel_rfl) (fun _ _ _ h => h) (Or.inl ⟨by rfl, ?_⟩) (by assumption) ?_
    rotate_left
    · first | (intro w hSw; (try dsimp only at hSw); go_simp; done) | (intro w hSw; (try dsimp only at hSw); go_simp; with_reducible rfl)
    try simp only [Act.put, List.setIfInBounds_toArray, List.set_cons_zero, List.set_cons_succ, List.getElem_toArray, List.getElem_cons_succ, List.getElem_cons_zero]
    refine wpAnyH_ready (rs := [9]) (by kernel_rfl) (by simp) ?_
    refine AllReadyH.cons rfl (fun K hK => ?_) AllReadyH.nil
    go_simp
    go_wp2_with (go_at_call 67; refine (nB_lt w2.heap.size (w.heap.size + 1) (n : Int) _ hn1 (by omega) SD.out).mono ?_; rintro e w6 ⟨r, rfl, r0, r1, s6, o6⟩)
    obtain ⟨j, rfl⟩ : ∃ j : Nat, r = (j : Int) := ⟨r.toNat, by omega⟩
    have hj : j < n := by omega
    have D6 := Lib.hid (D0.out.trans (But2.of o6))
    have B6 : Hid (Below w.heap.size w w6) := o6.below BD.out (by omega)
    refine hK.out _ _ ?_ (fun hHeld => ?_)
    · exact KX.out _ D6.out
    clear hK K
    have R6 : Hid (w6.heap[w.heap.size]? = some (.cells #[.slice none 0 0, .slice none 0 0] 26)) := (o6.block w.heap.size (Array.getElem?_eq_some_iff.1 RD.out).1 (by omega)).trans RD.out
    clear s6 o6
    refine wpAnyH_take (i := 10) (oi := _) (v := ?_) rfl (by kernel_rfl) (by kernel_rfl) (by kernel_rfl) (fun _ _ _ h => h) (Or.inl ⟨by rfl, ?_⟩) (by assumption) ?_
    rotate_left
    · first | (intro w hSw; (try dsimp only at hSw); go_simp; done) | (intro w hSw; (try dsimp only at hSw); go_simp; with_reducible rfl)
    try simp only [Act.put, List.setIfInBounds_toArray, List.set_cons_zero, List.set_cons_succ, List.getElem_toArray, List.getElem_cons_succ, List.getElem_cons_zero]
    refine wpAnyH_take (i := 11) (oi := _) (v := ?_) rfl (by kernel_rfl) (by kernel_rfl) (by kernel_rfl) (fun _ _ _ h => h) (Or.inl ⟨by rfl, ?_⟩) (by assumption) ?_
    rotate_left
    · first | (intro w hSw; (try dsimp only at hSw); go_simp; done) | (intro w hSw; (try dsimp only at hSw); go_simp; with_reducible rfl)
    try simp only [Act.put, List.setIfInBounds_toArray, List.set_cons_zero, List.set_cons_succ, List.getElem_toArray, List.getElem_cons_succ, List.getElem_cons_zero]
    refine wpAnyH_take (i := 12) (oi := _) (v := ?_) rfl (by kernel_rfl) (by kernel_rfl) (by kernel_rfl) (fun _ _ _ h => h) (Or.inl ⟨by rfl, ?_⟩) (by assumption) ?_
    rotate_left
    · first | (intro w hSw; obtain ⟨_, hsc, hst⟩ := hSw; have hcj := hst j hj; clear hst; go_simp; done) | (intro w hSw; obtain ⟨_, hsc, hst⟩ := hSw; have hcj := hst j hj; clear hst; go_simp; with_reducible rfl)
    try simp only [Act.put, List.setIfInBounds_toArray, List.set_cons_zero, List.set_cons_succ, List.getElem_toArray, List.getElem_cons_succ, List.getElem_cons_zero]
    refine wpAnyH_ready (rs := [13]) (by kernel_rfl) (by simp) ?_
    refine AllReadyH.cons rfl (fun K hK => ?_) AllReadyH.nil
    have R7 := heap_setCell_same _ w.heap.size 1 _ 26 (.slice sl2 m cap2) (heap_setCell_same w6 w.heap.size 0 _ 26 (.slice (some ⟨sc, so, none⟩) n cap1) R6.out)
    have c0 : w6.cell? ⟨w.heap.size, 0, none⟩ = some (.slice none 0 0) := by simp [World.cell?, R6.out]
    have c1 : w6.cell? ⟨w.heap.size, 1, none⟩ = some (.slice none 0 0) := by simp [World.cell?, R6.out]
    have f0 : w6.frozen? ⟨w.heap.size, 0, none⟩ = false := by simp [World.frozen?, R6.out]
    have f1 : w6.frozen? ⟨w.heap.size, 1, none⟩ = false := by simp [World.frozen?, R6.out]
    have lt7 : w.heap.size < w6.heap.size := (Array.getElem?_eq_some_iff.1 R6.out).1
    have D7 := Lib.hid ((D6.out.set 0 (.slice (some ⟨sc, so, none⟩) n cap1)).set 1 (.slice sl2 m cap2))
    have B7 : Hid (Below w.heap.size w ((w6.setCell ⟨w.heap.size, 0, none⟩ (.slice (some ⟨sc, so, none⟩) n cap1)).setCell ⟨w.heap.size, 1, none⟩ (.slice sl2 m cap2))) := (B6.out.setCell (Nat.le_refl _) _).setCell (Nat.le_refl _) _
    have R7' := Lib.hid R7
    clear R7
    go_simp
    refine hK.out _ _ ?_ (fun hHeld => ?_)
    · exact KX.out _ D7.out
    clear hK K c0 c1 f0 f1 lt7
    refine wpAnyH_take (i := 14) (oi := _) (v := ?_) rfl (by kernel_rfl) (by kernel_rfl) (by kernel_rfl) (fun _ _ _ h => h) (Or.inl ⟨by rfl, ?_⟩) (by assumption) ?_
    rotate_left
    · first | (intro w hSw; (try dsimp only at hSw); go_simp; done) | (intro w hSw; (try dsimp only at hSw); go_simp; with_reducible rfl)
    try simp only [Act.put, List.setIfInBounds_toArray, List.set_cons_zero, List.set_cons_succ, List.getElem_toArray, List.getElem_cons_succ, List.getElem_cons_zero]
    refine wpAnyH_take (i := 15) (oi := _) (v := ?_) rfl (by kernel_rfl) (by kernel_rfl) (by kernel_rfl) (fun _ _ _ h => h) (Or.inl ⟨by rfl, ?_⟩) (by assumption) ?_
    rotate_left
    · first | (intro w hSw; (try dsimp only at hSw); go_simp; done) | (intro w hSw; (try dsimp only at hSw); go_simp; with_reducible rfl)
    try simp only [Act.put, List.setIfInBounds_toArray, List.set_cons_zero, List.set_cons_succ, List.getElem_toArray, List.getElem_cons_succ, List.getElem_cons_zero]
    refine wpAnyH_take (i := 16) (oi := _) (v := ?_) rfl (by kernel_rfl) (by kernel_rfl) (by kernel_rfl) (fun _ _ _ h => h) (Or.inl ⟨by rfl, ?_⟩) (by assumption) ?_
    rotate_left
    · first | (intro w hSw; (try dsimp only at hSw); go_simp; done) | (intro w hSw; (try dsimp only at hSw); go_simp; with_reducible rfl)
    try simp only [Act.put, List.setIfInBounds_toArray, List.set_cons_zero, List.set_cons_succ, List.getElem_toArray, List.getElem_cons_succ, List.getElem_cons_zero]
    refine wpAnyH_done (by kernel_rfl) ?_ _
    have e5 : ((w6.setCell ⟨w.heap.size, 0, none⟩ (.slice (some ⟨sc, so, none⟩) n cap1)).setCell ⟨w.heap.size, 1, none⟩ (.slice sl2 m cap2)).cell? ⟨w.heap.size, 0, none⟩ = some (.slice (some ⟨sc, so, none⟩) n cap1) := by simp [World.cell?, R7'.out]
    have e6 : ((w6.setCell ⟨w.heap.size, 0, none⟩ (.slice (some ⟨sc, so, none⟩) n cap1)).setCell ⟨w.heap.size, 1, none⟩ (.slice sl2 m cap2)).cell? ⟨w.heap.size, 1, none⟩ = some (.slice sl2 m cap2) := by simp [World.cell?, R7'.out]
    have P := Lib.hid (FIN.out ((w6.setCell ⟨w.heap.size, 0, none⟩ (.slice (some ⟨sc, so, none⟩) n cap1)).setCell ⟨w.heap.size, 1, none⟩ (.slice sl2 m cap2)) ((idsL rs)[j]?.getD 0) D7.out B7.out)
    clear KX FIN
    go_wp2
    exact bodyPost_ret (v := .tuple #[.agg #[.slice (some ⟨sc, so, none⟩) n cap1, .slice sl2 m cap2], .int .i64 top, .slice vs pn vk, .int .i64 ((idsL rs)[j]?.getD 0)]) (by simp [results, Try.results14, go_sem, e5, e6]) rfl P.out
end Go.Proofs.Ytdmfljejlhlbnaa
namespace Go.Proofs.Ytdmfljejlhlbnaa
open Go.RowKit
set_option linter.unusedVariables false

theorem ne34 (a b : Int) (w : World) : Sem.run Try.prog (binOp .neq 34 (.agg #[.int .i64 a, .int .i64 b]) (.agg #[.int .i64 a, .int .i64 b])) w = .ok (.bool false) w := by
  have u2 := Try.underlying2
  have a2 := Try.isAgg2
  have z2 := Try.sizeOf2
  have hS : Try.prog.underlying 34 = some (.struct (Try.prog.fieldsOf 34)) := by kernel_rfl
  have hp : Try.prog.stoodInHeld 34 = false := by kernel_rfl
  rw [run_neq_struct, show (10000 : Nat) = 9999 + 1 from rfl, run_equalIn_agg w 9999 34 _ _ hS hp]
  simp only [Program.fieldsOf, Try.underlying34]
  go_simp

set_option maxRecDepth 100000 in
set_option maxHeartbeats 2000000 in
/-- laws.lwPlaces. -/
theorem lwp_any (sl : Option Addr) (cap : Nat) (pl : List LPl) (w : World) (hn : pl.length ≤ 1048576) (hz : Pls w sl pl) :
    Calls Try.prog 17 #[.slice sl pl.length cap] w fun e w' => ∃ v, e = .returned v ∧ w'.ownsRow w.heap.size 34 2 v pl.length (enCells pl) ∧ Below w.heap.size w w' := by
  have B0 := Lib.hid (bA0 w (.cells #[] 34))
  obtain ⟨v9, w9, ha, ow, gr, hj⟩ := appP (ks := []) (own_none2 w) cap (hz.below B0.out) B0.out.size (by simp; omega)
  have ha' := ha 27
  have O9 : Hid (w9.ownsRow w.heap.size 34 2 v9 pl.length (enCells pl)) := by
    have := ow
    rwa [List.nil_append] at this
  have B9 := Lib.hid (B0.out.grown gr B0.out.size hj)
  clear ha ow gr hj hz B0
  generalize pl.length = n at *
  go_enter Try.func17, Try.ntmps17
  go_wp2_with (at_builtin; refine Lib.wpList_append_run _ rfl _ _ _ _ rfl _ _ rfl rfl _ _ ha' ?_)
  go_ret
  exact ⟨_, rfl, O9.out, B9.out⟩

set_option maxRecDepth 100000 in
set_option maxHeartbeats 2000000 in
/-- laws.lwPlan, of the same places twice. -/
theorem lwq_any (sl sl' : Option Addr) (cap cap' : Nat) (pl : List LPl) (w : World) (hn : pl.length ≤ 1048576) (hz : Pls w sl pl) (hz' : Pls w sl' pl) :
    Calls Try.prog 18 #[.slice sl pl.length cap, .slice sl' pl.length cap'] w fun e w' => e = .returned (.bool true) ∧ Below w.heap.size w w' := by
  have HZ := Lib.hid hz
  have HZ' := Lib.hid hz'
  clear hz hz'
  generalize hN : pl.length = n at *
  have HN := Lib.hid hN
  clear hN
  go_enter Try.func18, Try.ntmps18
  go_wp2
  go_loopw [5] (fun i wr => ∃ k : Nat, i = .int .i64 k ∧ k ≤ n ∧ Hid (Below w.heap.size w wr)) (fun i _ => n - (intOf i).toNat)
  case atStart => exact ⟨0, rfl, Nat.zero_le _, Below.refl _ _⟩
  case round =>
    obtain ⟨k, rfl, hk, H2⟩ := hrel
    have hk0 : (0 : Int) ≤ (k : Int) := by omega
    by_cases g1 : k < n
    · have g1' : (k : Int) < (n : Int) := by omega
      have hlt : k < pl.length := by rw [HN.out]; exact g1
      obtain ⟨c, o, rfl, Z0⟩ : ∃ c o, sl = some ⟨c, o, none⟩ ∧ PlAt w c o pl := by
        rcases HZ.out with e | h
        · rw [e] at hlt; simp at hlt
        · exact h
      obtain ⟨c', o', rfl, Z0'⟩ : ∃ c o, sl' = some ⟨c, o, none⟩ ∧ PlAt w c o pl := by
        rcases HZ'.out with e | h
        · rw [e] at hlt; simp at hlt
        · exact h
      obtain ⟨⟨a, b⟩, hp⟩ : ∃ p, pl[k]'hlt = p := ⟨_, rfl⟩
      have KS : Hid ((c < wr.drew.heap.size ∧ wr.drew.cell? ⟨c, o + k * 2, none⟩ = some (.int .i64 a) ∧ wr.drew.cell? ⟨c, o + k * 2 + 1, none⟩ = some (.int .i64 b)) ∧ c' < wr.drew.heap.size ∧ wr.drew.cell? ⟨c', o' + k * 2, none⟩ = some (.int .i64 a) ∧ wr.drew.cell? ⟨c', o' + k * 2 + 1, none⟩ = some (.int .i64 b)) := by
        have q := (Z0.below H2.out.drew).cell k hlt
        have q' := (Z0'.below H2.out.drew).cell k hlt
        rw [hp] at q q'
        exact ⟨⟨(Z0.below H2.out.drew).lt, q⟩, (Z0'.below H2.out.drew).lt, q'⟩
      have D2 := Lib.hid H2.out.drew
      have hgt : Try.prog.eqGuardType Try.prog.depth 34 = false := by kernel_rfl
      have hnq := ne34 a b
      clear Z0 Z0' hp hlt
      go_wp2_with fail
      refine wp_region_held_drew (S := fun W => (c < W.heap.size ∧ W.cell? ⟨c, o + k * 2, none⟩ = some (.int .i64 a) ∧ W.cell? ⟨c, o + k * 2 + 1, none⟩ = some (.int .i64 b)) ∧ c' < W.heap.size ∧ W.cell? ⟨c', o' + k * 2, none⟩ = some (.int .i64 a) ∧ W.cell? ⟨c', o' + k * 2 + 1, none⟩ = some (.int .i64 b)) (by kernel_rfl) ?_ (fun hHeld => ?_)
      · exact KS.out
      refine wpAnyH_take (i := 0) (oi := _) (v := ?_) rfl (by kernel_rfl) (by kernel_rfl) (by kernel_rfl) (fun _ _ _ h => h) (Or.inl ⟨by rfl, ?_⟩) (by assumption) ?_
      rotate_left
      · first | (intro w hSw; (try dsimp only at hSw); go_simp; done) | (intro w hSw; (try dsimp only at hSw); go_simp; with_reducible rfl)
      try simp only [Act.put, List.setIfInBounds_toArray, List.set_cons_zero, List.set_cons_succ, List.getElem_toArray, List.getElem_cons_zero]
      refine wpAnyH_take (i := 1) (oi := _) (v := ?_) rfl (by kernel_rfl) (by kernel_rfl) (by kernel_rfl) (fun _ _ _ h => h) (Or.inl ⟨by rfl, ?_⟩) (by assumption) ?_
      rotate_left
      · first | (intro w hSw; (try dsimp only at hSw); go_simp; done) | (intro w hSw; (try dsimp only at hSw); go_simp; with_reducible rfl)
      try simp only [Act.put, List.setIfInBounds_toArray, List.set_cons_zero, List.set_cons_succ, List.getElem_toArray, List.getElem_cons_succ, List.getElem_cons_zero]
      refine wpAnyH_take (i := 2) (oi := _) (v := ?_) rfl (by kernel_rfl) (by kernel_rfl) (by kernel_rfl) (fun _ _ _ h => h) (Or.inl ⟨by rfl, ?_⟩) (by assumption) ?_
      rotate_left
      · first | (intro w hSw; (try dsimp only at hSw); go_simp; done) | (intro w hSw; (try dsimp only at hSw); go_simp; with_reducible rfl)
      try simp only [Act.put, List.setIfInBounds_toArray, List.set_cons_zero, List.set_cons_succ, List.getElem_toArray, List.getElem_cons_succ, List.getElem_cons_zero]
      refine wpAnyH_take (i := 3) (oi := _) (v := ?_) rfl (by kernel_rfl) (by kernel_rfl) (by kernel_rfl) (fun _ _ _ h => h) (Or.inl ⟨by rfl, ?_⟩) (by assumption) ?_
      rotate_left
      · first | (intro w hSw; (try dsimp only at hSw); go_simp; done) | (intro w hSw; (try dsimp only at hSw); go_simp; with_reducible rfl)
      try simp only [Act.put, List.setIfInBounds_toArray, List.set_cons_zero, List.set_cons_succ, List.getElem_toArray, List.getElem_cons_succ, List.getElem_cons_zero]
      refine wpAnyH_take (i := 4) (oi := _) (v := ?_) rfl (by kernel_rfl) (by kernel_rfl) (by kernel_rfl) (fun _ _ _ h => h) (Or.inl ⟨by rfl, ?_⟩) (by assumption) ?_
      rotate_left
      · first | (intro w hSw; (try dsimp only at hSw); go_simp; done) | (intro w hSw; (try dsimp only at hSw); go_simp; with_reducible rfl)
      try simp only [Act.put, List.setIfInBounds_toArray, List.set_cons_zero, List.set_cons_succ, List.getElem_toArray, List.getElem_cons_succ, List.getElem_cons_zero]
      refine wpAnyH_take (i := 5) (oi := _) (v := ?_) rfl (by kernel_rfl) (by kernel_rfl) (by kernel_rfl) (fun _ _ _ h => h) (Or.inl ⟨by rfl, ?_⟩) (by assumption) ?_
      rotate_left
      · first | (intro w hSw; (try dsimp only at hSw); go_simp; done) | (intro w hSw; (try dsimp only at hSw); go_simp; with_reducible rfl)
      try simp only [Act.put, List.setIfInBounds_toArray, List.set_cons_zero, List.set_cons_succ, List.getElem_toArray, List.getElem_cons_succ, List.getElem_cons_zero]
      refine wpAnyH_take (i := 6) (oi := _) (v := ?_) rfl (by kernel_rfl) (by kernel_rfl) (by kernel_rfl) (fun _ _ _ h => h) (Or.inl ⟨by rfl, ?_⟩) (by assumption) ?_
      rotate_left
      · first | (intro w hSw; (try dsimp only at hSw); go_simp; done) | (intro w hSw; (try dsimp only at hSw); go_simp; with_reducible rfl)
      try simp only [Act.put, List.setIfInBounds_toArray, List.set_cons_zero, List.set_cons_succ, List.getElem_toArray, List.getElem_cons_succ, List.getElem_cons_zero]
      refine wpAnyH_take (i := 7) (oi := _) (v := ?_) rfl (by kernel_rfl) (by kernel_rfl) (by kernel_rfl) (fun _ _ _ h => h) (Or.inl ⟨by rfl, ?_⟩) (by assumption) ?_
      rotate_left
      · first | (intro w hSw; (try dsimp only at hSw); go_simp; done) | (intro w hSw; (try dsimp only at hSw); go_simp; with_reducible rfl)
      try simp only [Act.put, List.setIfInBounds_toArray, List.set_cons_zero, List.set_cons_succ, List.getElem_toArray, List.getElem_cons_succ, List.getElem_cons_zero]
      refine wpAnyH_take (i := 8) (oi := _) (v := ?_) rfl (by kernel_rfl) (by kernel_rfl) (by kernel_rfl) (fun _ _ _ h => h) (Or.inl ⟨by rfl, ?_⟩) (by assumption) ?_
      rotate_left
      · first | (intro w hSw; (try dsimp only at hSw); go_simp; done) | (intro w hSw; (try dsimp only at hSw); go_simp; with_reducible rfl)
      try simp only [Act.put, List.setIfInBounds_toArray, List.set_cons_zero, List.set_cons_succ, List.getElem_toArray, List.getElem_cons_succ, List.getElem_cons_zero]
      refine wpAnyH_done (by kernel_rfl) ?_ _
      clear KS hnq hgt
      go_wp2
      go_roundw
      case rel => exact ⟨k + 1, by go_num, by omega, D2⟩
      case measure => simp [intOf]; omega
    · have g1' : ¬ (k : Int) < (n : Int) := by omega
      go_wp2
      go_ret
      exact ⟨rfl, H2.out⟩

end Go.Proofs.Ytdmfljejlhlbnaa
namespace Go.Proofs.Ytdmfljejlhlbnaa
open Go.RowKit
set_option linter.unusedVariables false

theorem addL_some (ps : List LPr) (pl : List LPl) (id : Int) : ∀ ds : List Int, addL ps pl id ds ≠ [] → ∃ c ∈ ds, fitB ps pl (id, c) = true ∧ addL ps pl id ds = withL pl (id, c)
  | [], h => absurd rfl h
  | c :: r, h => by
    unfold addL at h ⊢
    by_cases hf : fitB ps pl (id, c) = true
    · rw [if_pos hf]; exact ⟨c, by simp, hf, rfl⟩
    · rw [if_neg hf] at h ⊢
      obtain ⟨c', h1, h2, h3⟩ := addL_some ps pl id r h
      exact ⟨c', by simp [h1], h2, h3⟩
def notId (id : Int) (p : LPl) : Bool := !(p.1 == id)
theorem withL_filter (id c : Int) : ∀ pl : List LPl, id ∉ pidsL pl → (withL pl (id, c)).filter (notId id) = pl
  | [], _ => by simp [withL, notId]
  | p :: r, h => by
    have h1 : p.1 ≠ id := fun e => h (by simp [pidsL, e])
    have h2 : id ∉ pidsL r := fun e => h (by simp only [pidsL, List.map_cons, List.mem_cons]; exact .inr e)
    have hp : notId id p = true := by simp [notId, h1]
    have hr : r.filter (notId id) = r := List.filter_eq_self.2 (fun q hq => by
      have : q.1 ≠ id := fun e => h2 (List.mem_map.2 ⟨q, hq, e⟩)
      simp [notId, this])
    have hx : notId id (id, c) = false := by simp [notId]
    unfold withL
    split
    · rw [List.filter_cons, hx, List.filter_cons, hp, hr]; rfl
    · rw [List.filter_cons, hp, withL_filter id c r h2]; rfl
theorem add_good {rs : List LSt} {ps : List LPr} {top : Int} {pl : List LPl} {id : Int} (h : addA rs ps top pl id ≠ []) : (addA rs ps top pl id).filter (notId id) = pl ∧ (addA rs ps top pl id).length = pl.length + 1 ∧ planB rs ps top (addA rs ps top pl id) = true ∧ faultA rs ps top (addA rs ps top pl id) = 0 := by
  by_cases ok : AddOk rs ps top pl id
  · rw [addA_yes ok] at h ⊢
    obtain ⟨c, hc, hf, e⟩ := addL_some ps pl id _ h
    rw [e]
    have hp : planB rs ps top (withL pl (id, c)) = true := (add_iff ((planB_ok rs ps top pl).1 ok.1) ok.2 hc).trans hf
    refine ⟨withL_filter id c pl ok.2, withL_len pl (id, c), hp, ?_⟩
    unfold planB at hp
    rw [Bool.and_eq_true, beq_iff_eq] at hp
    exact hp.2
  · exact absurd (addA_no ok) h
theorem flt_step (id : Int) (A : List LPl) (k : Nat) (h : k < A.length) (p : LPl) (hp : A[k] = p) : (A.take (k + 1)).filter (notId id) = (A.take k).filter (notId id) ++ (if notId id p = true then [p] else []) := by
  rw [List.take_succ_eq_append_getElem h, List.filter_append, hp, List.filter_cons]
  split <;> simp

set_option maxRecDepth 100000 in
set_option maxHeartbeats 8000000 in
theorem law3 (sl : Option Addr) (len cap : Nat) (w : World) (hl : len ≤ maxLen) (hr : RowIn w sl len) :
    Calls Try.prog 3 #[.slice sl len cap] w fun e w' => e = .returned (.bool true) ∧ Below w.heap.size w w' := by
  unfold maxLen at hl
  by_cases hz : 1048576 < len
  · have hz' : (1048576 : Int) < (len : Int) := by omega
    clear hr
    go_enter Try.func3, Try.ntmps3
    go_wp2
    go_ret
    exact ⟨rfl, Below.refl _ _⟩
  have hz' : ¬ (1048576 : Int) < (len : Int) := by omega
  have E0 := Lib.hid (dpa_any sl len cap w hr)
  clear hr
  go_enter Try.func3, Try.ntmps3
  go_wp2_with fail
  refine E0.out.mono ?_
  rintro e w1 ⟨s1, c1, s2, c2, rs, ps, top, v, pl, id, rfl, hrs, hw, hst, hpr, hpl, ⟨C, hC, ov⟩, b1⟩
  obtain ⟨vs, vk, ev, pv⟩ := own_row2 ov
  subst ev
  have B1 := Lib.hid b1
  have BB := Lib.hid (bA0 w1 (.cells #[.slice s1 rs.length c1, .slice s2 ps.length c2] 26))
  have TB := Lib.hid (TabAt.new w1 s1 rs.length c1 s2 ps.length c2)
  have DB := Lib.hid (bA b1 (.cells #[.slice s1 rs.length c1, .slice s2 ps.length c2] 26))
  have X : Hid (∀ W, Below (w1.alloc (.cells #[.slice s1 rs.length c1, .slice s2 ps.length c2] 26)).heap.size (w1.alloc (.cells #[.slice s1 rs.length c1, .slice s2 ps.length c2] 26)) W → Sts W s1 rs ∧ Prs W s2 ps ∧ Pls W vs pl) := fun W hW => ⟨(hst.below BB.out).below hW, (hpr.below BB.out).below hW, (pv.below BB.out).below hW⟩
  have KT : Hid (∀ W, Below (w1.alloc (.cells #[.slice s1 rs.length c1, .slice s2 ps.length c2] 26)).heap.size (w1.alloc (.cells #[.slice s1 rs.length c1, .slice s2 ps.length c2] 26)) W → w1.heap.size < W.heap.size ∧ W.cell? ⟨w1.heap.size, 0, none⟩ = some (.slice s1 rs.length c1) ∧ W.cell? ⟨w1.heap.size, 1, none⟩ = some (.slice s2 ps.length c2)) := fun W hW => ⟨(TB.out.below hW).lt, (TB.out.below hW).cells⟩
  clear hst hpr b1 E0 BB B1 ov pv
  generalize hwB : w1.alloc (.cells #[.slice s1 rs.length c1, .slice s2 ps.length c2] 26) = wB at *
  have HWB := Lib.hid hwB
  clear hwB
  have hal := addA_len rs ps top pl id
  have E15 : Hid (∀ W, Below wB.heap.size wB W → Calls Try.prog 15 #[TV s1 rs.length c1 s2 ps.length c2, .int .i64 top, .slice vs pl.length vk, .int .i64 id] W fun e w' => ∃ v, e = .returned v ∧ w'.ownsRow W.heap.size 34 2 v (addA rs ps top pl id).length (enCells (addA rs ps top pl id)) ∧ Below W.heap.size W w') := fun W hW => by
    obtain ⟨x1, x2, x3⟩ := X.out W hW
    exact spa_any s1 c1 s2 c2 vs vk rs ps pl top id W (by omega) (by omega) x1 x2 x3
  have E17 : Hid (∀ W, Below wB.heap.size wB W → Calls Try.prog 17 #[.slice vs pl.length vk] W fun e w' => ∃ v, e = .returned v ∧ w'.ownsRow W.heap.size 34 2 v pl.length (enCells pl) ∧ Below W.heap.size W w') := fun W hW => lwp_any vs vk pl W (by omega) (X.out W hW).2.2
  have E16 : Hid (∀ W C v, Below wB.heap.size wB W → W.ownsRow C 34 2 v pl.length (enCells pl) → Calls Try.prog 16 #[TV s1 rs.length c1 s2 ps.length c2, .int .i64 top, v, .int .i64 id] W fun e w' => ∃ v, e = .returned v ∧ w'.ownsRow W.heap.size 34 2 v (addA rs ps top pl id).length (enCells (addA rs ps top pl id)) ∧ Below W.heap.size W w') := fun W C v hW o => by
    obtain ⟨x1, x2, _⟩ := X.out W hW
    obtain ⟨s, k, rfl, ip⟩ := own_row2 o
    exact ipa_any s1 c1 s2 c2 s k rs ps pl top id W (by omega) (by omega) x1 x2 hw ip (own_cap6 o)
  have EP : Hid (∀ W C v, Below wB.heap.size wB W → W.ownsRow C 34 2 v pl.length (enCells pl) → Calls Try.prog 18 #[v, .slice vs pl.length vk] W fun e w' => e = .returned (.bool true) ∧ Below W.heap.size W w') := fun W C v hW o => by
    obtain ⟨s, k, rfl, ip⟩ := own_row2 o
    exact lwq_any s vs k vk pl W (by omega) ip (X.out W hW).2.2
  have E19 : Hid (∀ W C v, Below wB.heap.size wB W → W.ownsRow C 34 2 v (addA rs ps top pl id).length (enCells (addA rs ps top pl id)) → Calls Try.prog 19 #[TV s1 rs.length c1 s2 ps.length c2, .int .i64 top, v] W fun e w' => e = .returned (.bool (planB rs ps top (addA rs ps top pl id))) ∧ Below W.heap.size W w') := fun W C v hW o => by
    obtain ⟨x1, x2, _⟩ := X.out W hW
    obtain ⟨s, k, rfl, ip⟩ := own_row2 o
    exact ipr_any s1 c1 s2 c2 s k rs ps _ top W (by omega) (by omega) x1 x2 hw ip (own_cap6 o)
  have E20 : Hid (∀ W C v, Below wB.heap.size wB W → W.ownsRow C 34 2 v (addA rs ps top pl id).length (enCells (addA rs ps top pl id)) → Calls Try.prog 20 #[TV s1 rs.length c1 s2 ps.length c2, .int .i64 top, v] W fun e w' => e = .returned (.int .i64 (faultA rs ps top (addA rs ps top pl id))) ∧ Below W.heap.size W w') := fun W C v hW o => by
    obtain ⟨x1, x2, _⟩ := X.out W hW
    obtain ⟨s, k, rfl, ip⟩ := own_row2 o
    exact ipf_any s1 c1 s2 c2 s k rs ps _ top W (by omega) (by omega) x1 x2 hw ip (own_cap6 o)
  have GD := Lib.hid (fun h => add_good (rs := rs) (ps := ps) (top := top) (pl := pl) (id := id) h)
  clear X TB hw
  generalize hA : addA rs ps top pl id = A at *
  clear hA
  generalize planB rs ps top A = bA' at *
  generalize faultA rs ps top A = fA at *
  have EA : Hid (∀ W C C' v v', W.ownsRow C 34 2 v A.length (enCells A) → W.ownsRow C' 34 2 v' A.length (enCells A) → Calls Try.prog 18 #[v, v'] W fun e w' => e = .returned (.bool true) ∧ Below W.heap.size W w') := fun W C C' v v' o o' => by
    obtain ⟨s, k, rfl, ip⟩ := own_row2 o
    obtain ⟨s', k', rfl, ip'⟩ := own_row2 o'
    exact lwq_any s s' k k' A W (by omega) ip ip'
  have EC : Hid (∀ W C v, W.ownsRow C 34 2 v A.length (enCells A) → Calls Try.prog 17 #[v] W fun e w' => ∃ v, e = .returned v ∧ w'.ownsRow W.heap.size 34 2 v A.length (enCells A) ∧ Below W.heap.size W w') := fun W C v o => by
    obtain ⟨s, k, rfl, ip⟩ := own_row2 o
    exact lwp_any s k A W (by omega) ip
  have OR := Lib.hid (fun (W : World) C v (o : W.ownsRow C 34 2 v A.length (enCells A)) => own_row2 o)
  generalize rs.length = n at *
  generalize ps.length = m at *
  go_wp2_with fail
  rw [HWB.out]
  refine (E15.out _ (Below.refl _ _)).mono ?_
  rintro e w2 ⟨vA, rfl, oA, bA2⟩
  have D2 := Lib.hid bA2
  have OA := Lib.hid oA
  obtain ⟨asl, ak, rfl, -⟩ := OR.out _ _ _ oA
  have A2 := Lib.hid (fun j hj => (oA.lt j hj).2)
  clear oA bA2 E15 HWB
  have K2 := Lib.hid (KT.out _ D2.out.drew)
  go_wp2_with fail
  refine wp_region_held_drew (S := fun W => w1.heap.size < W.heap.size ∧ W.cell? ⟨w1.heap.size, 0, none⟩ = some (.slice s1 n c1) ∧ W.cell? ⟨w1.heap.size, 1, none⟩ = some (.slice s2 m c2)) (by kernel_rfl) ?_ (fun hHeld => ?_)
  · exact K2.out
  refine wpAnyH_take (i := 0) (oi := _) (v := ?_) rfl (by kernel_rfl) (by kernel_rfl) (by kernel_rfl) (fun _ _ _ h => h) (Or.inl ⟨by rfl, ?_⟩) (by assumption) ?_
  rotate_left
  · first | (intro w hSw; (try dsimp only at hSw); go_simp; done) | (intro w hSw; (try dsimp only at hSw); go_simp; with_reducible rfl)
  try simp only [Act.put, List.setIfInBounds_toArray, List.set_cons_zero, List.set_cons_succ, List.getElem_toArray, List.getElem_cons_zero]
  refine wpAnyH_take (i := 1) (oi := _) (v := ?_) rfl (by kernel_rfl) (by kernel_rfl) (by kernel_rfl) (fun _ _ _ h => h) (Or.inl ⟨by rfl, ?_⟩) (by assumption) ?_
  rotate_left
  · first | (intro w hSw; (try dsimp only at hSw); go_simp; done) | (intro w hSw; (try dsimp only at hSw); go_simp; with_reducible rfl)
  try simp only [Act.put, List.setIfInBounds_toArray, List.set_cons_zero, List.set_cons_succ, List.getElem_toArray, List.getElem_cons_succ, List.getElem_cons_zero]
  refine wpAnyH_take (i := 2) (oi := _) (v := ?_) rfl (by kernel_rfl) (by kernel_rfl) (by kernel_rfl) (fun _ _ _ h => h) (Or.inl ⟨by rfl, ?_⟩) (by assumption) ?_
  rotate_left
  · first | (intro w hSw; (try dsimp only at hSw); go_simp; done) | (intro w hSw; (try dsimp only at hSw); go_simp; with_reducible rfl)
  try simp only [Act.put, List.setIfInBounds_toArray, List.set_cons_zero, List.set_cons_succ, List.getElem_toArray, List.getElem_cons_succ, List.getElem_cons_zero]
  refine wpAnyH_take (i := 4) (oi := _) (v := ?_) rfl (by kernel_rfl) (by kernel_rfl) (by kernel_rfl) (fun _ _ _ h => h) (Or.inl ⟨by rfl, ?_⟩) (by assumption) ?_
  rotate_left
  · first | (intro w hSw; (try dsimp only at hSw); go_simp; done) | (intro w hSw; (try dsimp only at hSw); go_simp; with_reducible rfl)
  try simp only [Act.put, List.setIfInBounds_toArray, List.set_cons_zero, List.set_cons_succ, List.getElem_toArray, List.getElem_cons_succ, List.getElem_cons_zero]
  refine wpAnyH_ready (rs := [3]) (by kernel_rfl) (by simp) ?_
  refine AllReadyH.cons rfl (fun K hK => ?_) AllReadyH.nil
  go_simp
  go_wp2_with (go_at_call 17; refine (E17.out _ D2.out.drew).mono ?_; rintro e w3 ⟨v3, rfl, o3, b3⟩)
  have F3 : Hid (Below w2.heap.size w2 w3) := bT ((Below.refl w2.heap.size w2).drew) b3
  have D3 := Lib.hid (bT D2.out F3.out)
  have C16 := Lib.hid (E16.out w3 _ v3 D3.out o3)
  obtain ⟨s3, k3, e3⟩ := own_v o3
  subst e3
  clear o3 b3
  refine hK.out _ _ ?_ (fun hHeld => ?_)
  · exact KT.out _ D3.out
  clear hK K
  refine wpAnyH_ready (rs := [5]) (by kernel_rfl) (by simp) ?_
  refine AllReadyH.cons rfl (fun K hK => ?_) AllReadyH.nil
  go_simp
  go_wp2_with (go_at_call 16; refine C16.out.mono ?_; rintro e w4 ⟨v4, rfl, o4', b4⟩)
  have F4 : Hid (Below w2.heap.size w2 w4) := bT F3.out b4
  have o4 : w4.ownsRow w2.heap.size 34 2 v4 A.length (enCells A) := own_mono o4' F3.out.size
  clear o4' C16 D3 F3
  refine hK.out _ _ ?_ (fun hHeld => ?_)
  · exact KT.out _ (bT D2.out F4.out)
  clear hK K
  refine wpAnyH_take (i := 6) (oi := _) (v := ?_) rfl (by kernel_rfl) (by kernel_rfl) (by kernel_rfl) (fun _ _ _ h => h) (Or.inl ⟨by rfl, ?_⟩) (by assumption) ?_
  rotate_left
  · first | (intro w hSw; (try dsimp only at hSw); go_simp; done) | (intro w hSw; (try dsimp only at hSw); go_simp; with_reducible rfl)
  try simp only [Act.put, List.setIfInBounds_toArray, List.set_cons_zero, List.set_cons_succ, List.getElem_toArray, List.getElem_cons_succ, List.getElem_cons_zero]
  refine wpAnyH_done (by kernel_rfl) ?_ _
  have OI := Lib.hid o4
  obtain ⟨is, ik, rfl, -⟩ := OR.out _ _ _ o4
  have OA4 := Lib.hid (own_below OA.out F4.out)
  have D4 := Lib.hid (bT D2.out F4.out)
  clear o4 b4 F4 K2 OA E17 E16
  go_wp2_with fail
  refine (EA.out _ _ _ _ _ OI.out OA4.out).mono ?_
  rintro e w5 ⟨rfl, b5⟩
  have OI5 := Lib.hid (own_below OI.out b5)
  have D5 := Lib.hid (bT D4.out b5)
  clear b5 OI OA4 D4
  by_cases h0 : A = []
  · have h0' : ((A.length : Int) == 0) = true := by rw [h0]; rfl
    have F5 := Lib.hid (DB.out.trans (D5.out.mono DB.out.size))
    clear h0 GD
    go_wp2
    go_ret
    exact ⟨rfl, F5.out⟩
  obtain ⟨g1, g2, g3, g4⟩ := GD.out h0
  have h0' : ((A.length : Int) == 0) = false := beq_eq_false_iff_ne.2 (by have := List.length_pos_iff.2 h0; omega)
  have hlen := Lib.hid g2
  have hflt := Lib.hid g1
  rw [g3] at E19
  rw [g4] at E20
  clear g1 g2 g3 g4 h0 GD
  have B6 := Lib.hid (bA0 w5 (.cells #[] 34))
  have O6 := Lib.hid (own_none2 w5)
  have OI6 := Lib.hid (World.ownsRow.alloc OI5.out (.cells #[] 34))
  have F0 : Hid ((A.take 0).filter (notId id) = []) := by show _ = _; simp
  have PL6 : Hid (∀ W, Below w5.heap.size w5 W → W.ownsRow w2.heap.size 34 2 (.slice is A.length ik) A.length (enCells A)) := fun W hW => own_below OI5.out hW
  clear OI6
  generalize hAN : A.length = an at *
  have HAN := Lib.hid hAN
  clear hAN
  go_wp2
  generalize w5.alloc (.cells #[] 34) = w6 at *
  go_loopw [9, 10] (fun v i wr => ∃ (k : Nat), i = .int .i64 k ∧ k ≤ an ∧ Hid (wr.ownsRow w5.heap.size 34 2 v ((A.take k).filter (notId id)).length (enCells ((A.take k).filter (notId id)))) ∧ Hid (Below w5.heap.size w5 wr)) (fun _ i _ => an - (intOf i).toNat)
  case atStart => exact ⟨0, rfl, Nat.zero_le _, by rw [F0.out]; exact O6, B6⟩
  case round =>
    obtain ⟨k, rfl, hk, OW, BW⟩ := hrel
    clear O6 B6 F0
    have hk0 : (0 : Int) ≤ (k : Int) := by omega
    by_cases h1 : k < an
    · have h1' : (k : Int) < (an : Int) := by omega
      have hlt : k < A.length := by rw [HAN.out]; exact h1
      obtain ⟨⟨x, y⟩, hp⟩ : ∃ p, A[k]'hlt = p := ⟨_, rfl⟩
      have FS := Lib.hid (flt_step id A k hlt (x, y) hp)
      have PW := PL6.out wr BW.out
      obtain ⟨is', ik', e', pw⟩ := OR.out _ _ _ PW
      cases e'
      obtain ⟨c, o, rfl, pa⟩ : ∃ c o, is = some ⟨c, o, none⟩ ∧ PlAt wr c o A := by
        rcases pw with e | h
        · rw [e] at hlt; simp at hlt
        · exact h
      have ca := pa.cell k hlt
      rw [hp] at ca
      obtain ⟨ca0, ca1⟩ := ca
      have cl := pa.lt
      have hfl : ((A.take k).filter (notId id)).length ≤ k := Nat.le_trans (List.length_filter_le _ _) (by simp; omega)
      clear pw pa hp PW hlt
      dsimp only at ca0 ca1
      generalize hL2 : (A.take (k + 1)).filter (notId id) = L2 at *
      have LK := Lib.hid hL2
      clear hL2
      generalize (A.take k).filter (notId id) = L at *
      by_cases hx : x = id
      · have hx' : (x == id) = true := beq_iff_eq.2 hx
        have EL := Lib.hid (show L2 = L by rw [FS.out]; simp [notId, hx])
        clear FS hx
        have OW2 := OW
        rw [← EL.out] at OW2
        go_wp2
        go_roundw
        case rel => exact ⟨k + 1, by go_num, by omega, by rw [LK.out]; exact OW2, BW⟩
        case measure => simp [intOf]; omega
      · have hx' : (x == id) = false := beq_eq_false_iff_ne.2 hx
        have EL := Lib.hid (show L2 = L ++ [(x, y)] by rw [FS.out]; simp [notId, hx])
        have hsz := BW.out.size
        obtain ⟨v9, w9, hr9, ow9, gr9, lo9⟩ := appP (OW.out.alloc (.cells #[.int .i64 x, .int .i64 y] 34)) 1 (pls_one (new_at wr _)) (by simp; omega) (by simp; omega)
        have hr9' := hr9 27
        have B9 := Lib.hid ((bA BW.out (.cells #[.int .i64 x, .int .i64 y] 34)).grown gr9 (by simp; omega) lo9)
        rw [← EL.out] at ow9
        have O9 := Lib.hid ow9
        clear FS hx hr9 ow9 gr9 lo9
        go_wp2_with (at_builtin; refine Lib.wpList_append_run _ rfl _ _ _ _ rfl _ _ rfl rfl _ _ hr9' ?_)
        go_roundw
        case rel => exact ⟨k + 1, by go_num, by omega, by rw [LK.out]; exact O9, B9⟩
        case measure => simp [intOf]; omega
    · have h1' : ¬ (k : Int) < (an : Int) := by omega
      have EK := Lib.hid (show (A.take k).filter (notId id) = pl by rw [List.take_of_length_le (by rw [HAN.out]; omega)]; exact hflt.out)
      rw [EK.out] at OW
      obtain ⟨fs, fk, ef, -⟩ := own_row2 OW.out
      subst ef
      have DW : Hid (Below wB.heap.size wB wr) := bT D5.out BW.out
      have PW := Lib.hid (PL6.out wr BW.out)
      have OWd : Hid (wr.drew.ownsRow w5.heap.size 34 2 (.slice fs pl.length fk) pl.length (enCells pl)) := OW
      have PWd : Hid (wr.drew.ownsRow w2.heap.size 34 2 (.slice is an ik) an (enCells A)) := PW
      have DWd := Lib.hid DW.out.drew
      have K9 := Lib.hid (KT.out _ DWd.out)
      have hwr : IntKind.i64.wrap ((pl.length : Int) + 1) = (an : Int) := by
        have e : (an : Int) = (pl.length : Int) + 1 := by have := hlen.out; omega
        rw [e, IntKind.wrap_i64]
        omega
      clear OW PW EK
      go_wp2_with fail
      refine wp_region_held_drew (S := fun W => w1.heap.size < W.heap.size ∧ W.cell? ⟨w1.heap.size, 0, none⟩ = some (.slice s1 n c1) ∧ W.cell? ⟨w1.heap.size, 1, none⟩ = some (.slice s2 m c2)) (by kernel_rfl) ?_ (fun hHeld => ?_)
      · exact K9.out
      refine wpAnyH_take (i := 0) (oi := _) (v := ?_) rfl (by kernel_rfl) (by kernel_rfl) (by kernel_rfl) (fun _ _ _ h => h) (Or.inl ⟨by rfl, ?_⟩) (by assumption) ?_
      rotate_left
      · first | (intro w hSw; (try dsimp only at hSw); go_simp; done) | (intro w hSw; (try dsimp only at hSw); go_simp; with_reducible rfl)
      try simp only [Act.put, List.setIfInBounds_toArray, List.set_cons_zero, List.set_cons_succ, List.getElem_toArray, List.getElem_cons_zero]
      refine wpAnyH_take (i := 1) (oi := _) (v := ?_) rfl (by kernel_rfl) (by kernel_rfl) (by kernel_rfl) (fun _ _ _ h => h) (Or.inl ⟨by rfl, ?_⟩) (by assumption) ?_
      rotate_left
      · first | (intro w hSw; (try dsimp only at hSw); go_simp; done) | (intro w hSw; (try dsimp only at hSw); go_simp; with_reducible rfl)
      try simp only [Act.put, List.setIfInBounds_toArray, List.set_cons_zero, List.set_cons_succ, List.getElem_toArray, List.getElem_cons_succ, List.getElem_cons_zero]
      refine wpAnyH_ready (rs := [2]) (by kernel_rfl) (by simp) ?_
      refine AllReadyH.cons rfl (fun K hK => ?_) AllReadyH.nil
      go_simp
      go_wp2_with (go_at_call 18; refine (EP.out _ _ _ DWd.out OWd.out).mono ?_; rintro e wa ⟨rfl, ba⟩)
      have Da := Lib.hid (bT DWd.out ba)
      have Pa := Lib.hid (own_below PWd.out ba)
      clear ba OWd
      refine hK.out _ _ ?_ (fun hHeld => ?_)
      · exact KT.out _ Da.out
      clear hK K
      refine wpAnyH_take (i := 3) (oi := _) (v := ?_) rfl (by kernel_rfl) (by kernel_rfl) (by kernel_rfl) (fun _ _ _ h => h) (Or.inl ⟨by rfl, ?_⟩) (by assumption) ?_
      rotate_left
      · first | (intro w hSw; (try dsimp only at hSw); go_simp; done) | (intro w hSw; (try dsimp only at hSw); go_simp; with_reducible rfl)
      try simp only [Act.put, List.setIfInBounds_toArray, List.set_cons_zero, List.set_cons_succ, List.getElem_toArray, List.getElem_cons_succ, List.getElem_cons_zero]
      refine wpAnyH_take (i := 4) (oi := _) (v := ?_) rfl (by kernel_rfl) (by kernel_rfl) (by kernel_rfl) (fun _ _ _ h => h) (Or.inl ⟨by rfl, ?_⟩) (by assumption) ?_
      rotate_left
      · first | (intro w hSw; (try dsimp only at hSw); go_simp; done) | (intro w hSw; (try dsimp only at hSw); go_simp; with_reducible rfl)
      try simp only [Act.put, List.setIfInBounds_toArray, List.set_cons_zero, List.set_cons_succ, List.getElem_toArray, List.getElem_cons_succ, List.getElem_cons_zero]
      refine wpAnyH_take (i := 5) (oi := _) (v := ?_) rfl (by kernel_rfl) (by kernel_rfl) (by kernel_rfl) (fun _ _ _ h => h) (Or.inl ⟨by rfl, ?_⟩) (by assumption) ?_
      rotate_left
      · first | (intro w hSw; (try dsimp only at hSw); go_simp; done) | (intro w hSw; (try dsimp only at hSw); go_simp; with_reducible rfl)
      try simp only [Act.put, List.setIfInBounds_toArray, List.set_cons_zero, List.set_cons_succ, List.getElem_toArray, List.getElem_cons_succ, List.getElem_cons_zero]
      refine wpAnyH_take (i := 6) (oi := _) (v := ?_) rfl (by kernel_rfl) (by kernel_rfl) (by kernel_rfl) (fun _ _ _ h => h) (Or.inl ⟨by rfl, ?_⟩) (by assumption) ?_
      rotate_left
      · first | (intro w hSw; (try dsimp only at hSw); go_simp; done) | (intro w hSw; (try dsimp only at hSw); go_simp; with_reducible rfl)
      try simp only [Act.put, List.setIfInBounds_toArray, List.set_cons_zero, List.set_cons_succ, List.getElem_toArray, List.getElem_cons_succ, List.getElem_cons_zero]
      refine wpAnyH_take (i := 7) (oi := _) (v := ?_) rfl (by kernel_rfl) (by kernel_rfl) (by kernel_rfl) (fun _ _ _ h => h) (Or.inl ⟨by rfl, ?_⟩) (by assumption) ?_
      rotate_left
      · first | (intro w hSw; (try dsimp only at hSw); go_simp; done) | (intro w hSw; (try dsimp only at hSw); go_simp; with_reducible rfl)
      try simp only [Act.put, List.setIfInBounds_toArray, List.set_cons_zero, List.set_cons_succ, List.getElem_toArray, List.getElem_cons_succ, List.getElem_cons_zero]
      refine wpAnyH_take (i := 8) (oi := _) (v := ?_) rfl (by kernel_rfl) (by kernel_rfl) (by kernel_rfl) (fun _ _ _ h => h) (Or.inl ⟨by rfl, ?_⟩) (by assumption) ?_
      rotate_left
      · first | (intro w hSw; (try dsimp only at hSw); go_simp; done) | (intro w hSw; (try dsimp only at hSw); go_simp; with_reducible rfl)
      try simp only [Act.put, List.setIfInBounds_toArray, List.set_cons_zero, List.set_cons_succ, List.getElem_toArray, List.getElem_cons_succ, List.getElem_cons_zero]
      refine wpAnyH_take (i := 9) (oi := _) (v := ?_) rfl (by kernel_rfl) (by kernel_rfl) (by kernel_rfl) (fun _ _ _ h => h) (Or.inl ⟨by rfl, ?_⟩) (by assumption) ?_
      rotate_left
      · first | (intro w hSw; (try dsimp only at hSw); go_simp; done) | (intro w hSw; (try dsimp only at hSw); go_simp; with_reducible rfl)
      try simp only [Act.put, List.setIfInBounds_toArray, List.set_cons_zero, List.set_cons_succ, List.getElem_toArray, List.getElem_cons_succ, List.getElem_cons_zero]
      refine wpAnyH_take (i := 10) (oi := _) (v := ?_) rfl (by kernel_rfl) (by kernel_rfl) (by kernel_rfl) (fun _ _ _ h => h) (Or.inl ⟨by rfl, ?_⟩) (by assumption) ?_
      rotate_left
      · first | (intro w hSw; (try dsimp only at hSw); go_simp; done) | (intro w hSw; (try dsimp only at hSw); go_simp; with_reducible rfl)
      try simp only [Act.put, List.setIfInBounds_toArray, List.set_cons_zero, List.set_cons_succ, List.getElem_toArray, List.getElem_cons_succ, List.getElem_cons_zero]
      refine wpAnyH_take (i := 11) (oi := _) (v := ?_) rfl (by kernel_rfl) (by kernel_rfl) (by kernel_rfl) (fun _ _ _ h => h) (Or.inl ⟨by rfl, ?_⟩) (by assumption) ?_
      rotate_left
      · first | (intro w hSw; (try dsimp only at hSw); go_simp; done) | (intro w hSw; (try dsimp only at hSw); go_simp; with_reducible rfl)
      try simp only [Act.put, List.setIfInBounds_toArray, List.set_cons_zero, List.set_cons_succ, List.getElem_toArray, List.getElem_cons_succ, List.getElem_cons_zero]
      refine wpAnyH_take (i := 12) (oi := _) (v := ?_) rfl (by kernel_rfl) (by kernel_rfl) (by kernel_rfl) (fun _ _ _ h => h) (Or.inl ⟨by rfl, ?_⟩) (by assumption) ?_
      rotate_left
      · first | (intro w hSw; (try dsimp only at hSw); go_simp; done) | (intro w hSw; (try dsimp only at hSw); go_simp; with_reducible rfl)
      try simp only [Act.put, List.setIfInBounds_toArray, List.set_cons_zero, List.set_cons_succ, List.getElem_toArray, List.getElem_cons_succ, List.getElem_cons_zero]
      refine wpAnyH_take (i := 13) (oi := _) (v := ?_) rfl (by kernel_rfl) (by kernel_rfl) (by kernel_rfl) (fun _ _ _ h => h) (Or.inl ⟨by rfl, ?_⟩) (by assumption) ?_
      rotate_left
      · first | (intro w hSw; (try dsimp only at hSw); go_simp; done) | (intro w hSw; (try dsimp only at hSw); go_simp; with_reducible rfl)
      try simp only [Act.put, List.setIfInBounds_toArray, List.set_cons_zero, List.set_cons_succ, List.getElem_toArray, List.getElem_cons_succ, List.getElem_cons_zero]
      refine wpAnyH_take (i := 14) (oi := _) (v := ?_) rfl (by kernel_rfl) (by kernel_rfl) (by kernel_rfl) (fun _ _ _ h => h) (Or.inl ⟨by rfl, ?_⟩) (by assumption) ?_
      rotate_left
      · first | (intro w hSw; (try dsimp only at hSw); go_simp; done) | (intro w hSw; (try dsimp only at hSw); go_simp; with_reducible rfl)
      try simp only [Act.put, List.setIfInBounds_toArray, List.set_cons_zero, List.set_cons_succ, List.getElem_toArray, List.getElem_cons_succ, List.getElem_cons_zero]
      refine wpAnyH_ready (rs := [15]) (by kernel_rfl) (by simp) ?_
      refine AllReadyH.cons rfl (fun K hK => ?_) AllReadyH.nil
      go_simp
      go_wp2_with (go_at_call 17; refine (EC.out _ _ _ Pa.out).mono ?_; rintro e wb ⟨vb, rfl, ob, bb⟩)
      have Db := Lib.hid (bT Da.out bb)
      have Pb := Lib.hid (own_below Pa.out bb)
      have C19 := Lib.hid (E19.out _ _ _ Db.out ob)
      clear ob bb Pa
      refine hK.out _ _ ?_ (fun hHeld => ?_)
      · exact KT.out _ Db.out
      clear hK K
      refine wpAnyH_ready (rs := [16]) (by kernel_rfl) (by simp) ?_
      refine AllReadyH.cons rfl (fun K hK => ?_) AllReadyH.nil
      go_simp
      go_wp2_with (go_at_call 19; refine C19.out.mono ?_; rintro e wc ⟨rfl, bc⟩)
      have Dc := Lib.hid (bT Db.out bc)
      have Pc := Lib.hid (own_below Pb.out bc)
      clear bc Pb C19
      refine hK.out _ _ ?_ (fun hHeld => ?_)
      · exact KT.out _ Dc.out
      clear hK K
      refine wpAnyH_take (i := 17) (oi := _) (v := ?_) rfl (by kernel_rfl) (by kernel_rfl) (by kernel_rfl) (fun _ _ _ h => h) (Or.inl ⟨by rfl, ?_⟩) (by assumption) ?_
      rotate_left
      · first | (intro w hSw; (try dsimp only at hSw); go_simp; done) | (intro w hSw; (try dsimp only at hSw); go_simp; with_reducible rfl)
      try simp only [Act.put, List.setIfInBounds_toArray, List.set_cons_zero, List.set_cons_succ, List.getElem_toArray, List.getElem_cons_succ, List.getElem_cons_zero]
      refine wpAnyH_take (i := 18) (oi := _) (v := ?_) rfl (by kernel_rfl) (by kernel_rfl) (by kernel_rfl) (fun _ _ _ h => h) (Or.inl ⟨by rfl, ?_⟩) (by assumption) ?_
      rotate_left
      · first | (intro w hSw; (try dsimp only at hSw); go_simp; done) | (intro w hSw; (try dsimp only at hSw); go_simp; with_reducible rfl)
      try simp only [Act.put, List.setIfInBounds_toArray, List.set_cons_zero, List.set_cons_succ, List.getElem_toArray, List.getElem_cons_succ, List.getElem_cons_zero]
      refine wpAnyH_take (i := 19) (oi := _) (v := ?_) rfl (by kernel_rfl) (by kernel_rfl) (by kernel_rfl) (fun _ _ _ h => h) (Or.inl ⟨by rfl, ?_⟩) (by assumption) ?_
      rotate_left
      · first | (intro w hSw; (try dsimp only at hSw); go_simp; done) | (intro w hSw; (try dsimp only at hSw); go_simp; with_reducible rfl)
      try simp only [Act.put, List.setIfInBounds_toArray, List.set_cons_zero, List.set_cons_succ, List.getElem_toArray, List.getElem_cons_succ, List.getElem_cons_zero]
      refine wpAnyH_take (i := 20) (oi := _) (v := ?_) rfl (by kernel_rfl) (by kernel_rfl) (by kernel_rfl) (fun _ _ _ h => h) (Or.inl ⟨by rfl, ?_⟩) (by assumption) ?_
      rotate_left
      · first | (intro w hSw; (try dsimp only at hSw); go_simp; done) | (intro w hSw; (try dsimp only at hSw); go_simp; with_reducible rfl)
      try simp only [Act.put, List.setIfInBounds_toArray, List.set_cons_zero, List.set_cons_succ, List.getElem_toArray, List.getElem_cons_succ, List.getElem_cons_zero]
      refine wpAnyH_take (i := 21) (oi := _) (v := ?_) rfl (by kernel_rfl) (by kernel_rfl) (by kernel_rfl) (fun _ _ _ h => h) (Or.inl ⟨by rfl, ?_⟩) (by assumption) ?_
      rotate_left
      · first | (intro w hSw; (try dsimp only at hSw); go_simp; done) | (intro w hSw; (try dsimp only at hSw); go_simp; with_reducible rfl)
      try simp only [Act.put, List.setIfInBounds_toArray, List.set_cons_zero, List.set_cons_succ, List.getElem_toArray, List.getElem_cons_succ, List.getElem_cons_zero]
      refine wpAnyH_ready (rs := [22]) (by kernel_rfl) (by simp) ?_
      refine AllReadyH.cons rfl (fun K hK => ?_) AllReadyH.nil
      go_simp
      go_wp2_with (go_at_call 17; refine (EC.out _ _ _ Pc.out).mono ?_; rintro e wd ⟨vd, rfl, od, bd⟩)
      have Dd := Lib.hid (bT Dc.out bd)
      have C20 := Lib.hid (E20.out _ _ _ Dd.out od)
      clear od bd Pc
      refine hK.out _ _ ?_ (fun hHeld => ?_)
      · exact KT.out _ Dd.out
      clear hK K
      refine wpAnyH_ready (rs := [23]) (by kernel_rfl) (by simp) ?_
      refine AllReadyH.cons rfl (fun K hK => ?_) AllReadyH.nil
      go_simp
      go_wp2_with (go_at_call 20; refine C20.out.mono ?_; rintro e we ⟨rfl, be⟩)
      have De := Lib.hid (bT Dd.out be)
      have FF := Lib.hid (DB.out.trans (De.out.mono DB.out.size))
      clear be C20
      refine hK.out _ _ ?_ (fun hHeld => ?_)
      · exact KT.out _ De.out
      clear hK K
      refine wpAnyH_take (i := 24) (oi := _) (v := ?_) rfl (by kernel_rfl) (by kernel_rfl) (by kernel_rfl) (fun _ _ _ h => h) (Or.inl ⟨by rfl, ?_⟩) (by assumption) ?_
      rotate_left
      · first | (intro w hSw; (try dsimp only at hSw); go_simp; done) | (intro w hSw; (try dsimp only at hSw); go_simp; with_reducible rfl)
      try simp only [Act.put, List.setIfInBounds_toArray, List.set_cons_zero, List.set_cons_succ, List.getElem_toArray, List.getElem_cons_succ, List.getElem_cons_zero]
      refine wpAnyH_take (i := 25) (oi := _) (v := ?_) rfl (by kernel_rfl) (by kernel_rfl) (by kernel_rfl) (fun _ _ _ h => h) (Or.inl ⟨by rfl, ?_⟩) (by assumption) ?_
      rotate_left
      · first | (intro w hSw; (try dsimp only at hSw); go_simp; done) | (intro w hSw; (try dsimp only at hSw); go_simp; with_reducible rfl)
      try simp only [Act.put, List.setIfInBounds_toArray, List.set_cons_zero, List.set_cons_succ, List.getElem_toArray, List.getElem_cons_succ, List.getElem_cons_zero]
      refine wpAnyH_take (i := 26) (oi := _) (v := ?_) rfl (by kernel_rfl) (by kernel_rfl) (by kernel_rfl) (fun _ _ _ h => h) (Or.inl ⟨by rfl, ?_⟩) (by assumption) ?_
      rotate_left
      · first | (intro w hSw; (try dsimp only at hSw); go_simp; done) | (intro w hSw; (try dsimp only at hSw); go_simp; with_reducible rfl)
      try simp only [Act.put, List.setIfInBounds_toArray, List.set_cons_zero, List.set_cons_succ, List.getElem_toArray, List.getElem_cons_succ, List.getElem_cons_zero]
      refine wpAnyH_done (by kernel_rfl) ?_ _
      go_wp2
      go_ret
      exact ⟨rfl, FF.out⟩

end Go.Proofs.Ytdmfljejlhlbnaa
