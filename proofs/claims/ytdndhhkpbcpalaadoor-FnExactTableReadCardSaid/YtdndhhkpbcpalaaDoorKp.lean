/-
  A TABLE's TEXT READ, AS THE MODEL READS IT: spec.TableRead.
-/
import Derived.Test.YtdndhhkpbcpalaaDoorKo
import Derived.Test.YtdndhhkpbcpalaaDoorKh
namespace Go.Proofs.YtdndhhkpbcpalaaDoor
open Go.RowKit
set_option linter.unusedVariables false
set_option linter.unusedSimpArgs false

/-- What holds ahead of a line. -/
structure RJ (w : World) (L : List (List UInt8)) (g : Nat) (cur : Array Value) (tb k : Nat) (v1 v2 : Value) (rs : List LSt) (ps : List LPr) (W : World) : Prop where
  ow : OwT W w.heap.size v1 v2 rs ps
  m0 : ResAt W w.heap.size
  m1 : W.heap[g]? = some (.cells cur 9)
  m2 : W.heap[tb]? = some (.cells #[v1, v2] 25)
  bel : Below w.heap.size w W
  l1 : rs.length ≤ k
  l2 : ps.length ≤ k
  wf : ∀ p ∈ ps, WfP p
  run : runL 0 [] [] (L.take (L.length - 1)) = runL k (bare rs) ps ((L.take (L.length - 1)).drop k)
theorem RJ.below {w : World} {L : List (List UInt8)} {g : Nat} {cur : Array Value} {tb k : Nat} {v1 v2 : Value} {rs : List LSt} {ps : List LPr} {W W' : World} (h : RJ w L g cur tb k v1 v2 rs ps W) (hb : Below W.heap.size W W') : RJ w L g cur tb k v1 v2 rs ps W' :=
  ⟨h.ow.below hb, (hb.block _ (Array.getElem?_eq_some_iff.1 h.m0).1).trans h.m0, (hb.block _ (Array.getElem?_eq_some_iff.1 h.m1).1).trans h.m1, (hb.block _ (Array.getElem?_eq_some_iff.1 h.m2).1).trans h.m2, bT h.bel hb, h.l1, h.l2, h.wf, h.run⟩
theorem RJ.step {w : World} {L : List (List UInt8)} {g : Nat} {cur : Array Value} {tb k : Nat} {v1 v2 u1 u2 : Value} {rs rs' : List LSt} {ps ps' : List LPr} {W W' : World} {l : List UInt8} (h : RJ w L g cur tb k v1 v2 rs ps W) (hl : L[k]? = some l) (hk : k < L.length - 1) (m0 : ResAt W' w.heap.size) (m1 : W'.heap[g]? = some (.cells cur 9)) (m2 : W'.heap[tb]? = some (.cells #[v1, v2] 25)) (hb : Below w.heap.size w W') (ho : OwT W' w.heap.size u1 u2 rs' ps') (hr : lineP (bare rs) ps l = some (bare rs', ps')) (hnt : w.heap.size < tb) (hgt : g < tb) :
    RJ w L g cur tb (k + 1) u1 u2 rs' ps' ((W'.setCell ⟨tb, 0, none⟩ u1).setCell ⟨tb, 1, none⟩ u2) := by
  have m3 := heap_setCell_same W' tb 0 _ 25 u1 m2
  have m4 := heap_setCell_same _ tb 1 _ 25 u2 m3
  have gr := line_grow hr
  have e : (L.take (L.length - 1)).drop k = l :: (L.take (L.length - 1)).drop (k + 1) := by
    have hlt : k < (L.take (L.length - 1)).length := by rw [List.length_take]; omega
    rw [List.drop_eq_getElem_cons hlt]
    congr 1
    have := (List.getElem?_eq_some_iff.1 hl).2
    simp [this]
  refine ⟨(ho.keptB m2 (grown_set _ _ _ _)).keptB m3 (grown_set _ _ _ _), ?_, ?_, by simpa using m4, ((hb.setCell (p := ⟨tb, 0, none⟩) (by show w.heap.size ≤ tb; omega) u1).setCell (p := ⟨tb, 1, none⟩) (by show w.heap.size ≤ tb; omega) u2), by have := h.l1; omega, by have := h.l2; omega, fun p hp => ?_, ?_⟩
  · exact (((Below.heap_setCell _ _ _ _ (by show w.heap.size ≠ tb; omega)).trans (Below.heap_setCell _ _ _ _ (by show w.heap.size ≠ tb; omega)))).trans m0
  · exact (((Below.heap_setCell _ _ _ _ (by show g ≠ tb; omega)).trans (Below.heap_setCell _ _ _ _ (by show g ≠ tb; omega)))).trans m1
  · rcases gr.2.2 p hp with hp | hp
    · exact h.wf p hp
    · exact hp
  · rw [h.run, e, runL_some hr]
/-- Two cells set in another block. -/
theorem set2_blk (W : World) (b q : Nat) (x y : Value) (h : b ≠ q) : ((W.setCell ⟨q, 0, none⟩ x).setCell ⟨q, 1, none⟩ y).heap[b]? = W.heap[b]? :=
  (Below.heap_setCell _ _ _ _ h).trans (Below.heap_setCell _ _ _ _ h)

set_option maxRecDepth 100000 in
set_option maxHeartbeats 1000000 in
theorem str_long (s : ByteArray) (w : World) (h : 20000 < s.size) (hs : s.size ≤ 100000000) : Calls Tryd.prog 4 #[.string s] w fun e w' => RdPost w s e w' := by
  have h' : (20000 : Int) < (s.size : Int) := by omega
  have HF := Lib.hid (show outS s = ([], [], 0, 2) by unfold outS; rw [if_pos h])
  have c0 := cellsAt (new_at w (.cells #[.slice none 0 0, .slice none 0 0, .int .i64 0, .int .i64 0] 27))
  clear h
  go_enter Tryd.func4, Tryd.ntmps4
  go_wp2
  have c2 := cellsAt (new_at w (.cells #[.slice none 0 0, .slice none 0 0, .int .i64 0, .int .i64 2] 27))
  exact bodyPost_ret (v := .agg #[.slice none 0 0, .slice none 0 0, .int .i64 0, .int .i64 2]) (by simp [results, Tryd.results4, go_sem, c2]) rfl (rd_err HF.out (bA0 _ _))

set_option maxRecDepth 100000 in
set_option maxHeartbeats 8000000 in
/-- spec.TableRead. -/
theorem str_read (s : ByteArray) (w : World) (hs : s.size ≤ 20000) : Calls Tryd.prog 4 #[.string s] w fun e w' => RdPost w s e w' := by
  have h' : ¬ (20000 : Int) < (s.size : Int) := by omega
  obtain ⟨L, hL⟩ : ∃ L, splitL 10 s.data.toList = L := ⟨_, rfl⟩
  have hLn : 1 ≤ L.length ∧ L.length ≤ 20001 := by
    have := split_len 10 s.data.toList
    rw [hL] at this
    have e : s.data.toList.length = s.size := rfl
    omega
  have hsm : Hid (∀ x ∈ L, x.length ≤ 20000) := fun x hx => by
    rw [← hL] at hx
    have := split_small 10 s.data.toList x hx
    have e : s.data.toList.length = s.size := rfl
    omega
  have HF : Hid (outS s = outF s.data.toList) := by show _ = _; unfold outS; rw [if_neg (by omega)]
  have HB : Hid (∀ k, runL 0 [] [] (L.take (L.length - 1)) = .inl k → outF s.data.toList = ([], [], (k : Int), 3)) := fun k h => by
    apply outF_bad
    rw [hL]; exact h
  have HE : Hid (∀ x, runL 0 [] [] (L.take (L.length - 1)) = .inr x → outF s.data.toList = if L.length - 1 = 0 ∨ L.getD (L.length - 1) [] ≠ [] then ([], [], ((L.length - 1 : Nat) : Int), 3) else (x.1, x.2, 0, 0)) := fun x h => by
    have := outF_end (t := s.data.toList) (x := x) (by rw [hL]; exact h)
    rwa [hL] at this
  have SP := Lib.hid (spl_any s 10 (w.alloc (.cells #[.slice none 0 0, .slice none 0 0, .int .i64 0, .int .i64 0] 27)) (by omega))
  rw [hL] at SP
  have M0 := Lib.hid (new_at w (.cells #[.slice none 0 0, .slice none 0 0, .int .i64 0, .int .i64 0] 27))
  have B0 := Lib.hid (bA0 w (.cells #[.slice none 0 0, .slice none 0 0, .int .i64 0, .int .i64 0] 27))
  have hz0 : (w.alloc (.cells #[.slice none 0 0, .slice none 0 0, .int .i64 0, .int .i64 0] 27)).heap.size = w.heap.size + 1 := by simp
  obtain ⟨n, hn⟩ : ∃ n, L.length = n + 1 := ⟨L.length - 1, by omega⟩
  have HN := Lib.hid hn
  rw [hn] at hLn SP
  have hn2 : n ≤ 20000 := by omega
  clear hL hn hLn
  go_enter Tryd.func4, Tryd.ntmps4
  go_wp2_with fail
  refine SP.out.mono ?_
  rintro e w2 ⟨v3, rfl, ow3, b2⟩
  obtain ⟨g, cap, cur, rfl, hgn, hgb, hcap, HGc⟩ : ∃ g cap cur, v3 = .slice (some ⟨g, 0, none⟩) (n + 1) cap ∧ w.heap.size < g ∧ w2.heap[g]? = some (.cells cur 9) ∧ n + 1 ≤ cap ∧ ∀ (i : Nat) (x : List UInt8), L[i]? = some x → cur[i]? = some (Value.string ⟨x.toArray⟩) := by
    rcases ow3.2 with ⟨_, h0⟩ | ⟨g, cap, cur, e, hb, hgb, hl, h4, h5, h6⟩
    · omega
    · subst e
      rw [hz0] at hb
      refine ⟨g, cap, cur, rfl, hb, hgb, hl, fun i x hx => ?_⟩
      have hi := (List.getElem?_eq_some_iff.1 hx).1
      rw [HN.out] at hi
      have hc := ow3.cellAt i (by omega)
      rw [(cellsAt hgb).1] at hc
      rw [hc]
      unfold strs
      rw [List.getElem?_map, hx]
      rfl
  have HG := Lib.hid HGc
  have B2 := Lib.hid (bT B0.out b2)
  have M02 := (b2.block w.heap.size (by omega)).trans M0.out
  have MT := new_at w2 (.cells #[.slice none 0 0, .slice none 0 0] 25)
  have bT2 := bA0 w2 (.cells #[.slice none 0 0, .slice none 0 0] 25)
  have hgl := (Array.getElem?_eq_some_iff.1 hgb).1
  have hnt0 : w.heap.size < w2.heap.size := (Array.getElem?_eq_some_iff.1 M02).1
  have R0 : Hid (RJ w L g cur w2.heap.size 0 (.slice none 0 0) (.slice none 0 0) [] [] (w2.alloc (.cells #[.slice none 0 0, .slice none 0 0] 25))) := ⟨OwT.nil _ _, (bT2.block w.heap.size hnt0).trans M02, (bT2.block g hgl).trans hgb, MT, bA B2.out _, Nat.le_refl _, Nat.le_refl _, (fun p hp => by cases hp), rfl⟩
  clear ow3 b2 SP M0 B0 HGc B2 M02 MT bT2 hgb
  go_wp2_with fail
  generalize w2.alloc (.cells #[.slice none 0 0, .slice none 0 0] 25) = w3 at *
  generalize w2.heap.size = tb at *
  have hnt : w.heap.size < tb := hnt0
  have hgt : g < tb := hgl
  clear hgl hnt0 hz0
  go_loopw [5] (fun t wr => ∃ (k : Nat) (v1 v2 : Value) (rs : List LSt) (ps : List LPr), t = .int .i64 k ∧ k ≤ n ∧ Hid (RJ w L g cur tb k v1 v2 rs ps wr)) (fun t _ => n + 1 - (intOf t).toNat)
  case atStart => exact ⟨0, _, _, [], [], rfl, Nat.zero_le _, R0.out⟩
  case round =>
    obtain ⟨k, v1, v2, rs, ps, rfl, hk, H0⟩ := hrel
    have hk0 : (0 : Int) ≤ (k : Int) := by omega
    have hk1 : (k : Int) < (n : Int) + 1 := by omega
    obtain ⟨a1, a2, a3, rfl⟩ := IsSl.own H0.out.ow.r1
    obtain ⟨d1, d2, d3, rfl⟩ := IsSl.own H0.out.ow.r2
    obtain ⟨l, hl⟩ : ∃ l, L[k]? = some l := ⟨_, List.getElem?_eq_getElem (by rw [HN.out]; omega)⟩
    have hlm := hsm.out l (List.mem_of_getElem? hl)
    have HLl := Lib.hid hl
    have qg : wr.cell? ⟨g, k, none⟩ = some (.string ⟨l.toArray⟩) := by rw [(cellsAt H0.out.m1).1]; exact HG.out k l hl
    clear R0 hl
    by_cases h1 : k < n
    · have h1' : ((k : Int) = (n : Int)) = False := eq_false (by omega)
      have h1b : ((k : Int) == (n : Int)) = false := by rw [beq_eq_false_iff_ne]; omega
      have bW := bA0 wr (.cells #[.slice none 0 0, .slice none 0 0, .int .i64 (k : Int), .int .i64 3] 27)
      have MW := new_at wr (.cells #[.slice none 0 0, .slice none 0 0, .int .i64 (k : Int), .int .i64 3] 27)
      have H1 := Lib.hid (H0.out.below bW)
      have WL : Hid (∀ W, RJ w L g cur tb k (.slice a1 a2 a3) (.slice d1 d2 d3) rs ps W → Calls Tryd.prog 10 #[.agg #[.slice a1 a2 a3, .slice d1 d2 d3], .string ⟨l.toArray⟩] W fun e w' => LinePost w.heap.size (.slice a1 a2 a3) (.slice d1 d2 d3) W (lineP (bare rs) ps l) e w') := fun W hW => by
        have := sl_any w.heap.size (.slice a1 a2 a3) (.slice d1 d2 d3) rs ps ⟨l.toArray⟩ W hW.ow hW.bel.size (by have := hW.l1; omega) (by have := hW.l2; omega) (by simpa [ByteArray.size] using hlm)
        simpa using this
      have BDD := Lib.hid (Below.refl (wr.alloc (.cells #[.slice none 0 0, .slice none 0 0, .int .i64 (k : Int), .int .i64 3] 27)).heap.size (wr.alloc (.cells #[.slice none 0 0, .slice none 0 0, .int .i64 (k : Int), .int .i64 3] 27))).drew
      have HS : Hid ((wr.alloc (.cells #[.slice none 0 0, .slice none 0 0, .int .i64 (k : Int), .int .i64 3] 27)).drew.cell? ⟨tb, 0, none⟩ = some (.slice a1 a2 a3) ∧ (wr.alloc (.cells #[.slice none 0 0, .slice none 0 0, .int .i64 (k : Int), .int .i64 3] 27)).drew.cell? ⟨tb, 1, none⟩ = some (.slice d1 d2 d3) ∧ (wr.alloc (.cells #[.slice none 0 0, .slice none 0 0, .int .i64 (k : Int), .int .i64 3] 27)).drew.cell? ⟨g, k, none⟩ = some (.string ⟨l.toArray⟩)) := ⟨((bW.drew).cell (Array.getElem?_eq_some_iff.1 H0.out.m2).1).trans (by rw [(cellsAt H0.out.m2).1]; rfl), ((bW.drew).cell (Array.getElem?_eq_some_iff.1 H0.out.m2).1).trans (by rw [(cellsAt H0.out.m2).1]; rfl), ((bW.drew).cell (Array.getElem?_eq_some_iff.1 H0.out.m1).1).trans qg⟩
      have MWd0 : Hid ((wr.alloc (.cells #[.slice none 0 0, .slice none 0 0, .int .i64 (k : Int), .int .i64 3] 27)).drew.heap[wr.heap.size]? = some (.cells #[.slice none 0 0, .slice none 0 0, .int .i64 (k : Int), .int .i64 3] 27)) := MW
      have hk2 : ((k : Int) < (n : Int) + 1) = True := eq_true hk1
      clear MW qg bW hlm
      go_wp2_with fail
      refine wp_region_held_drew (S := fun W => W.cell? ⟨tb, 0, none⟩ = some (.slice a1 a2 a3) ∧ W.cell? ⟨tb, 1, none⟩ = some (.slice d1 d2 d3) ∧ W.cell? ⟨g, k, none⟩ = some (.string ⟨l.toArray⟩)) (by kernel_rfl) ?_ (fun hHeld => ?_)
      · exact HS.out
      have HS12 := HS
      have MWd := MWd0
      clear HS MWd0
      generalize (wr.alloc (.cells #[.slice none 0 0, .slice none 0 0, .int .i64 (k : Int), .int .i64 3] 27)).drew = wd at *
      generalize wr.heap.size = q6 at *
      refine wpAnyH_take (i := 0) (oi := _) (v := ?_) rfl (by kernel_rfl) (by kernel_rfl) (by kernel_rfl) (fun _ _ _ h => h) (Or.inl ⟨by rfl, ?_⟩) (by assumption) ?_
      rotate_left
      · first | (intro w hSw; (try dsimp only at hSw); go_simp; done) | (intro w hSw; (try dsimp only at hSw); go_simp; with_reducible rfl)
      try simp only [Act.put, List.setIfInBounds_toArray, List.set_cons_zero, List.set_cons_succ, List.getElem_toArray, List.getElem_cons_zero]
      refine wpAnyH_take (i := 1) (oi := _) (v := ?_) rfl (by kernel_rfl) (by kernel_rfl) (by kernel_rfl) (fun _ _ _ h => h) (Or.inl ⟨by rfl, ?_⟩) (by assumption) ?_
      rotate_left
      · first | (intro w hSw; (try dsimp only at hSw); go_simp; done) | (intro w hSw; (try dsimp only at hSw); go_simp; with_reducible rfl)
      try simp only [Act.put, List.setIfInBounds_toArray, List.set_cons_zero, List.set_cons_succ, List.getElem_toArray, List.getElem_cons_succ, List.getElem_cons_zero]
      refine wpAnyH_take (i := 2) (oi := _) (v := ?_) rfl (by kernel_rfl) (by kernel_rfl) (by kernel_rfl) (fun _ _ _ h => h) (Or.inl ⟨by rfl, ?_⟩) (by assumption) ?_
      rotate_left
      · first | (intro w hSw; (try dsimp only at hSw); go_simp; done) | (intro w hSw; (try dsimp only at hSw); go_simp; with_reducible rfl)
      try simp only [Act.put, List.setIfInBounds_toArray, List.set_cons_zero, List.set_cons_succ, List.getElem_toArray, List.getElem_cons_succ, List.getElem_cons_zero]
      refine wpAnyH_take (i := 3) (oi := _) (v := ?_) rfl (by kernel_rfl) (by kernel_rfl) (by kernel_rfl) (fun _ _ _ h => h) (Or.inl ⟨by rfl, ?_⟩) (by assumption) ?_
      rotate_left
      · first | (intro w hSw; (try dsimp only at hSw); go_simp; done) | (intro w hSw; (try dsimp only at hSw); go_simp; with_reducible rfl)
      try simp only [Act.put, List.setIfInBounds_toArray, List.set_cons_zero, List.set_cons_succ, List.getElem_toArray, List.getElem_cons_succ, List.getElem_cons_zero]
      refine wpAnyH_take (i := 4) (oi := _) (v := ?_) rfl (by kernel_rfl) (by kernel_rfl) (by kernel_rfl) (fun _ _ _ h => h) (Or.inl ⟨by rfl, ?_⟩) (by assumption) ?_
      rotate_left
      · first | (intro w hSw; (try dsimp only at hSw); go_simp; done) | (intro w hSw; (try dsimp only at hSw); go_simp; with_reducible rfl)
      try simp only [Act.put, List.setIfInBounds_toArray, List.set_cons_zero, List.set_cons_succ, List.getElem_toArray, List.getElem_cons_succ, List.getElem_cons_zero]
      clear hHeld
      refine wpAnyH_ready (rs := [5, 9]) (by kernel_rfl) (by simp) ?_
      refine AllReadyH.cons rfl (fun K hK => ?_) (AllReadyH.cons rfl (fun K hK => ?_) AllReadyH.nil)
      · go_simp
        go_wp2_with fail
        have HC := Lib.hid (H1.out.below BDD.out)
        have HMW := MWd.out
        refine (WL.out _ HC.out).mono ?_
        rintro e w6 ⟨u1, u2, ok, rfl, ⟨x1, x2, x3, rfl⟩, ⟨y1, y2, y3, rfl⟩, b6, k6, hr6⟩
        have HR6 := Lib.hid hr6
        have K6 := Lib.hid k6
        have B6 := Lib.hid b6
        have MT6 := keep_blk HC.out.ow k6 HC.out.m2 (by decide) (by decide)
        have MG6 := keep_blk HC.out.ow k6 HC.out.m1 (by decide) (by decide)
        have M06 := keep_blk HC.out.ow k6 HC.out.m0 (by decide) (by decide)
        have MW6 := keep_blk HC.out.ow k6 HMW (by decide) (by decide)
        refine hK.out _ _ ?_ (fun hHeld => ?_)
        · exact ⟨by rw [(cellsAt MT6).1]; rfl, by rw [(cellsAt MT6).1]; rfl, by rw [(cellsAt MG6).1, ← (cellsAt HC.out.m1).1]; exact HS12.out.2.2⟩
        clear hK K hHeld hr6 k6 b6
        try simp only [Act.put, List.setIfInBounds_toArray, List.set_cons_zero, List.set_cons_succ, List.getElem_toArray, List.getElem_cons_succ, List.getElem_cons_zero]
        have hHeld : (w6.cell? ⟨tb, 0, none⟩ = some (.slice a1 a2 a3) ∧ w6.cell? ⟨tb, 1, none⟩ = some (.slice d1 d2 d3) ∧ w6.cell? ⟨g, k, none⟩ = some (.string ⟨l.toArray⟩)) := ⟨by rw [(cellsAt MT6).1]; rfl, by rw [(cellsAt MT6).1]; rfl, by rw [(cellsAt MG6).1, ← (cellsAt HC.out.m1).1]; exact HS12.out.2.2⟩
        refine wpAnyH_take (i := 6) (oi := _) (v := ?_) rfl (by kernel_rfl) (by kernel_rfl) (by kernel_rfl) (fun _ _ _ h => h) (Or.inl ⟨by rfl, ?_⟩) (by assumption) ?_
        rotate_left
        · first | (intro w hSw; (try dsimp only at hSw); go_simp; done) | (intro w hSw; (try dsimp only at hSw); go_simp; with_reducible rfl)
        try simp only [Act.put, List.setIfInBounds_toArray, List.set_cons_zero, List.set_cons_succ, List.getElem_toArray, List.getElem_cons_succ, List.getElem_cons_zero]
        refine wpAnyH_take (i := 7) (oi := _) (v := ?_) rfl (by kernel_rfl) (by kernel_rfl) (by kernel_rfl) (fun _ _ _ h => h) (Or.inl ⟨by rfl, ?_⟩) (by assumption) ?_
        rotate_left
        · first | (intro w hSw; (try dsimp only at hSw); go_simp; done) | (intro w hSw; (try dsimp only at hSw); go_simp; with_reducible rfl)
        try simp only [Act.put, List.setIfInBounds_toArray, List.set_cons_zero, List.set_cons_succ, List.getElem_toArray, List.getElem_cons_succ, List.getElem_cons_zero]
        refine wpAnyH_take (i := 8) (oi := _) (v := ?_) rfl (by kernel_rfl) (by kernel_rfl) (by kernel_rfl) (fun _ _ _ h => h) (Or.inl ⟨by rfl, ?_⟩) (by assumption) ?_
        rotate_left
        · first | (intro w hSw; (try dsimp only at hSw); go_simp; done) | (intro w hSw; (try dsimp only at hSw); go_simp; with_reducible rfl)
        try simp only [Act.put, List.setIfInBounds_toArray, List.set_cons_zero, List.set_cons_succ, List.getElem_toArray, List.getElem_cons_succ, List.getElem_cons_zero]
        refine wpAnyH_ready (rs := [9]) (by kernel_rfl) (by simp) ?_
        refine AllReadyH.cons rfl (fun K hK => ?_) AllReadyH.nil
        go_simp
        go_wp2
        refine hK.out _ _ ?_ (fun hHeld => ?_)
        · exact ⟨((bA0 w6 _).cell (by have := (Array.getElem?_eq_some_iff.1 MT6).1; exact this)).trans (by rw [(cellsAt MT6).1]; rfl), ((bA0 w6 _).cell (by have := (Array.getElem?_eq_some_iff.1 MT6).1; exact this)).trans (by rw [(cellsAt MT6).1]; rfl), ((bA0 w6 _).cell (by have := (Array.getElem?_eq_some_iff.1 MG6).1; exact this)).trans (by rw [(cellsAt MG6).1, ← (cellsAt HC.out.m1).1]; exact HS12.out.2.2)⟩
        clear hK K hHeld
        refine wpAnyH_ready (rs := [10]) (by kernel_rfl) (by simp) ?_
        refine AllReadyH.cons rfl (fun K hK => ?_) AllReadyH.nil
        go_simp
        go_wp2
        have MQ7 := new_at w6 (.cells #[.slice x1 x2 x3, .slice y1 y2 y3] 25)
        have bQ := bA0 w6 (.cells #[.slice x1 x2 x3, .slice y1 y2 y3] 25)
        have OW9 : Hid (∀ rs' ps', OwT w6 w.heap.size (.slice x1 x2 x3) (.slice y1 y2 y3) rs' ps' → OwT (w6.alloc (.cells #[.slice x1 x2 x3, .slice y1 y2 y3] 25)) w.heap.size (.slice x1 x2 x3) (.slice y1 y2 y3) rs' ps') := fun rs' ps' ho => ho.below bQ
        have MQ9 : Hid ((w6.alloc (.cells #[.slice x1 x2 x3, .slice y1 y2 y3] 25)).heap[w6.heap.size]? = some (.cells #[.slice x1 x2 x3, .slice y1 y2 y3] 25)) := MQ7
        have MT9 := Lib.hid ((bQ.block tb (Array.getElem?_eq_some_iff.1 MT6).1).trans MT6)
        have MG9 := Lib.hid ((bQ.block g (Array.getElem?_eq_some_iff.1 MG6).1).trans MG6)
        have M09 : Hid (ResAt (w6.alloc (.cells #[.slice x1 x2 x3, .slice y1 y2 y3] 25)) w.heap.size) := (bQ.block w.heap.size (Array.getElem?_eq_some_iff.1 M06).1).trans M06
        have MW9 := Lib.hid ((bQ.block q6 (Array.getElem?_eq_some_iff.1 MW6).1).trans MW6)
        have B9 := Lib.hid (((HC.out.bel.trans B6.out)).alloc (by have := (HC.out.bel.trans B6.out).size; exact this) (.cells #[.slice x1 x2 x3, .slice y1 y2 y3] 25))
        generalize w6.alloc (.cells #[.slice x1 x2 x3, .slice y1 y2 y3] 25) = W9 at *
        clear bQ MQ7
        generalize w6.heap.size = q7 at MQ9 ⊢
        refine hK.out _ _ ?_ (fun hHeld => ?_)
        · exact ⟨by rw [(cellsAt MT9.out).1]; rfl, by rw [(cellsAt MT9.out).1]; rfl, by rw [(cellsAt MG9.out).1, ← (cellsAt HC.out.m1).1]; exact HS12.out.2.2⟩
        clear hK K
        refine wpAnyH_take (i := 11) (oi := _) (v := ?_) rfl (by kernel_rfl) (by kernel_rfl) (by kernel_rfl) (fun _ _ _ h => h) (Or.inl ⟨by rfl, ?_⟩) (by assumption) ?_
        rotate_left
        · first | (intro w hSw; (try dsimp only at hSw); go_simp; done) | (intro w hSw; (try dsimp only at hSw); go_simp; with_reducible rfl)
        try simp only [Act.put, List.setIfInBounds_toArray, List.set_cons_zero, List.set_cons_succ, List.getElem_toArray, List.getElem_cons_succ, List.getElem_cons_zero]
        refine wpAnyH_done (by kernel_rfl) ?_ _
        clear hHeld MT6 MG6 M06 MW6 HMW
        cases ok with
        | false =>
          have HO : Hid (outS s = ([], [], (k : Int), 3)) := by
            show _ = _
            rw [HF.out]
            apply HB.out
            rw [H0.out.run]
            have hlt : k < (L.take (L.length - 1)).length := by rw [List.length_take, HN.out]; omega
            rw [List.drop_eq_getElem_cons hlt]
            have hll : (L.take (L.length - 1))[k] = l := by have := (List.getElem?_eq_some_iff.1 HLl.out).2; simp [this]
            rw [hll]
            rcases HR6.out with hh | hh
            · exact runL_none hh.2
            · exact absurd hh.1 (by simp)
          have c7 := cellsAt M09.out
          have c6 := cellsAt MW9.out
          go_wp2_with fail
          have MS0 := heap_setCell_same W9 w.heap.size 0 _ 27 (.slice none 0 0) M09.out
          have MS1 := heap_setCell_same (W9.setCell ⟨w.heap.size, 0, none⟩ (.slice none 0 0)) w.heap.size 1 _ 27 (.slice none 0 0) MS0
          have MS2 := heap_setCell_same ((W9.setCell ⟨w.heap.size, 0, none⟩ (.slice none 0 0)).setCell ⟨w.heap.size, 1, none⟩ (.slice none 0 0)) w.heap.size 2 _ 27 (.int .i64 (k : Int)) MS1
          have MS3 := heap_setCell_same (((W9.setCell ⟨w.heap.size, 0, none⟩ (.slice none 0 0)).setCell ⟨w.heap.size, 1, none⟩ (.slice none 0 0)).setCell ⟨w.heap.size, 2, none⟩ (.int .i64 (k : Int))) w.heap.size 3 _ 27 (.int .i64 3) MS2
          have BS := Lib.hid ((((B9.out.setCell (p := ⟨w.heap.size, 0, none⟩) (Nat.le_refl _) (.slice none 0 0)).setCell (p := ⟨w.heap.size, 1, none⟩) (Nat.le_refl _) (.slice none 0 0)).setCell (p := ⟨w.heap.size, 2, none⟩) (Nat.le_refl _) (.int .i64 (k : Int))).setCell (p := ⟨w.heap.size, 3, none⟩) (Nat.le_refl _) (.int .i64 3))
          generalize (((W9.setCell ⟨w.heap.size, 0, none⟩ (.slice none 0 0)).setCell ⟨w.heap.size, 1, none⟩ (.slice none 0 0)).setCell ⟨w.heap.size, 2, none⟩ (.int .i64 (k : Int))).setCell ⟨w.heap.size, 3, none⟩ (.int .i64 3) = w8 at *
          have z0 : w8.cell? ⟨w.heap.size, 0, none⟩ = some (.slice none 0 0) := by rw [(cellsAt MS3).1]; rfl
          have z1 : w8.cell? ⟨w.heap.size, 1, none⟩ = some (.slice none 0 0) := by rw [(cellsAt MS3).1]; rfl
          have z2 : w8.cell? ⟨w.heap.size, 2, none⟩ = some (.int .i64 (k : Int)) := by rw [(cellsAt MS3).1]; rfl
          have z3 : w8.cell? ⟨w.heap.size, 3, none⟩ = some (.int .i64 3) := by rw [(cellsAt MS3).1]; rfl
          exact bodyPost_ret (v := .agg #[.slice none 0 0, .slice none 0 0, .int .i64 (k : Int), .int .i64 3]) (by simp [results, Tryd.results4, go_sem, z0, z1, z2, z3]) rfl (rd_err HO.out BS.out)
        | true =>
          have c9 := cellsAt MQ9.out
          have cT := cellsAt MT9.out
          have R7 : Hid (∃ rs' ps', RJ w L g cur tb (k + 1) (.slice x1 x2 x3) (.slice y1 y2 y3) rs' ps' ((W9.setCell ⟨tb, 0, none⟩ (.slice x1 x2 x3)).setCell ⟨tb, 1, none⟩ (.slice y1 y2 y3))) := by
            rcases HR6.out with hh | ⟨-, rs', ps', ho, hh⟩
            · exact absurd hh.1 (by simp)
            · exact ⟨rs', ps', HC.out.step HLl.out (by rw [HN.out]; omega) M09.out MG9.out MT9.out B9.out (OW9.out rs' ps' ho) hh hnt hgt⟩
          go_wp2_with fail
          generalize (W9.setCell ⟨tb, 0, none⟩ (.slice x1 x2 x3)).setCell ⟨tb, 1, none⟩ (.slice y1 y2 y3) = w10 at *
          go_roundw
          case rel =>
            obtain ⟨rs', ps', hR⟩ := R7.out
            exact ⟨k + 1, _, _, rs', ps', by go_num, by omega, hR⟩
          case measure => simp [intOf]; omega
      · go_simp
        go_wp2
        refine hK.out _ _ ?_ (fun hHeld => ?_)
        · exact ⟨((bA0 wd _).cell (by have := (Array.getElem?_eq_some_iff.1 (H1.out.below BDD.out).m2).1; exact this)).trans HS12.out.1, ((bA0 wd _).cell (by have := (Array.getElem?_eq_some_iff.1 (H1.out.below BDD.out).m2).1; exact this)).trans HS12.out.2.1, ((bA0 wd _).cell (by have := (Array.getElem?_eq_some_iff.1 (H1.out.below BDD.out).m1).1; exact this)).trans HS12.out.2.2⟩
        clear hK K hHeld
        have bQ := bA0 wd (.cells #[.slice none 0 0, .slice none 0 0] 25)
        have MQ0 := new_at wd (.cells #[.slice none 0 0, .slice none 0 0] 25)
        have HC := Lib.hid ((H1.out.below BDD.out).below bQ)
        have HMW := (bQ.block q6 (Array.getElem?_eq_some_iff.1 MWd.out).1).trans MWd.out
        have HS12b : Hid ((wd.alloc (.cells #[.slice none 0 0, .slice none 0 0] 25)).cell? ⟨tb, 0, none⟩ = some (.slice a1 a2 a3) ∧ (wd.alloc (.cells #[.slice none 0 0, .slice none 0 0] 25)).cell? ⟨tb, 1, none⟩ = some (.slice d1 d2 d3) ∧ (wd.alloc (.cells #[.slice none 0 0, .slice none 0 0] 25)).cell? ⟨g, k, none⟩ = some (.string ⟨l.toArray⟩)) := ⟨(bQ.cell (by have := (Array.getElem?_eq_some_iff.1 (H1.out.below BDD.out).m2).1; exact this)).trans HS12.out.1, (bQ.cell (by have := (Array.getElem?_eq_some_iff.1 (H1.out.below BDD.out).m2).1; exact this)).trans HS12.out.2.1, (bQ.cell (by have := (Array.getElem?_eq_some_iff.1 (H1.out.below BDD.out).m1).1; exact this)).trans HS12.out.2.2⟩
        have hqt : tb < wd.heap.size := (Array.getElem?_eq_some_iff.1 (H1.out.below BDD.out).m2).1
        have hnq : w.heap.size < wd.heap.size := by omega
        have hq6 : q6 < wd.heap.size := (Array.getElem?_eq_some_iff.1 MWd.out).1
        generalize wd.alloc (.cells #[.slice none 0 0, .slice none 0 0] 25) = we at *
        generalize wd.heap.size = q7 at *
        have HS12 := HS12b
        clear HS12b bQ
        refine wpAnyH_ready (rs := [5]) (by kernel_rfl) (by simp) ?_
        refine AllReadyH.cons rfl (fun K hK => ?_) AllReadyH.nil
        go_simp
        go_wp2_with fail
        refine (WL.out _ HC.out).mono ?_
        rintro e w6 ⟨u1, u2, ok, rfl, ⟨x1, x2, x3, rfl⟩, ⟨y1, y2, y3, rfl⟩, b6, k6, hr6⟩
        have HR6 := Lib.hid hr6
        have K6 := Lib.hid k6
        have B6 := Lib.hid b6
        have MT6 := keep_blk HC.out.ow k6 HC.out.m2 (by decide) (by decide)
        have MG6 := keep_blk HC.out.ow k6 HC.out.m1 (by decide) (by decide)
        have M06 := keep_blk HC.out.ow k6 HC.out.m0 (by decide) (by decide)
        have MW6 := keep_blk HC.out.ow k6 HMW (by decide) (by decide)
        refine hK.out _ _ ?_ (fun hHeld => ?_)
        · exact ⟨by rw [(cellsAt MT6).1]; rfl, by rw [(cellsAt MT6).1]; rfl, by rw [(cellsAt MG6).1, ← (cellsAt HC.out.m1).1]; exact HS12.out.2.2⟩
        clear hK K hHeld hr6 k6 b6
        have MQ6 := keep_blk HC.out.ow K6.out MQ0 (by decide) (by decide)
        try simp only [Act.put, List.setIfInBounds_toArray, List.set_cons_zero, List.set_cons_succ, List.getElem_toArray, List.getElem_cons_succ, List.getElem_cons_zero]
        have hHeld : (w6.cell? ⟨tb, 0, none⟩ = some (.slice a1 a2 a3) ∧ w6.cell? ⟨tb, 1, none⟩ = some (.slice d1 d2 d3) ∧ w6.cell? ⟨g, k, none⟩ = some (.string ⟨l.toArray⟩)) := ⟨by rw [(cellsAt MT6).1]; rfl, by rw [(cellsAt MT6).1]; rfl, by rw [(cellsAt MG6).1, ← (cellsAt HC.out.m1).1]; exact HS12.out.2.2⟩
        refine wpAnyH_take (i := 6) (oi := _) (v := ?_) rfl (by kernel_rfl) (by kernel_rfl) (by kernel_rfl) (fun _ _ _ h => h) (Or.inl ⟨by rfl, ?_⟩) (by assumption) ?_
        rotate_left
        · first | (intro w hSw; (try dsimp only at hSw); go_simp; done) | (intro w hSw; (try dsimp only at hSw); go_simp; with_reducible rfl)
        try simp only [Act.put, List.setIfInBounds_toArray, List.set_cons_zero, List.set_cons_succ, List.getElem_toArray, List.getElem_cons_succ, List.getElem_cons_zero]
        refine wpAnyH_take (i := 7) (oi := _) (v := ?_) rfl (by kernel_rfl) (by kernel_rfl) (by kernel_rfl) (fun _ _ _ h => h) (Or.inl ⟨by rfl, ?_⟩) (by assumption) ?_
        rotate_left
        · first | (intro w hSw; (try dsimp only at hSw); go_simp; done) | (intro w hSw; (try dsimp only at hSw); go_simp; with_reducible rfl)
        try simp only [Act.put, List.setIfInBounds_toArray, List.set_cons_zero, List.set_cons_succ, List.getElem_toArray, List.getElem_cons_succ, List.getElem_cons_zero]
        refine wpAnyH_take (i := 8) (oi := _) (v := ?_) rfl (by kernel_rfl) (by kernel_rfl) (by kernel_rfl) (fun _ _ _ h => h) (Or.inl ⟨by rfl, ?_⟩) (by assumption) ?_
        rotate_left
        · first | (intro w hSw; (try dsimp only at hSw); go_simp; done) | (intro w hSw; (try dsimp only at hSw); go_simp; with_reducible rfl)
        try simp only [Act.put, List.setIfInBounds_toArray, List.set_cons_zero, List.set_cons_succ, List.getElem_toArray, List.getElem_cons_succ, List.getElem_cons_zero]
        refine wpAnyH_ready (rs := [10]) (by kernel_rfl) (by simp) ?_
        refine AllReadyH.cons rfl (fun K hK => ?_) AllReadyH.nil
        have cQ := cellsAt MQ6
        go_simp
        go_wp2
        have MQ8 := heap_setCell_same w6 q7 0 _ 25 (.slice x1 x2 x3) MQ6
        have MQ7 := heap_setCell_same _ q7 1 _ 25 (.slice y1 y2 y3) MQ8
        have MQ9 : Hid (((w6.setCell ⟨q7, 0, none⟩ (.slice x1 x2 x3)).setCell ⟨q7, 1, none⟩ (.slice y1 y2 y3)).heap[q7]? = some (.cells #[.slice x1 x2 x3, .slice y1 y2 y3] 25)) := Lib.hid (by simpa using MQ7)
        have OW9 : Hid (∀ rs' ps', OwT w6 w.heap.size (.slice x1 x2 x3) (.slice y1 y2 y3) rs' ps' → OwT ((w6.setCell ⟨q7, 0, none⟩ (.slice x1 x2 x3)).setCell ⟨q7, 1, none⟩ (.slice y1 y2 y3)) w.heap.size (.slice x1 x2 x3) (.slice y1 y2 y3) rs' ps') := fun rs' ps' ho => (ho.keptB MQ6 (grown_set _ _ _ _)).keptB MQ8 (grown_set _ _ _ _)
        have MT9 : Hid (((w6.setCell ⟨q7, 0, none⟩ (.slice x1 x2 x3)).setCell ⟨q7, 1, none⟩ (.slice y1 y2 y3)).heap[tb]? = some (.cells #[.slice a1 a2 a3, .slice d1 d2 d3] 25)) := (set2_blk _ _ _ _ _ (by omega)).trans MT6
        have MG9 : Hid (((w6.setCell ⟨q7, 0, none⟩ (.slice x1 x2 x3)).setCell ⟨q7, 1, none⟩ (.slice y1 y2 y3)).heap[g]? = some (.cells cur 9)) := (set2_blk _ _ _ _ _ (by omega)).trans MG6
        have M09 : Hid (ResAt ((w6.setCell ⟨q7, 0, none⟩ (.slice x1 x2 x3)).setCell ⟨q7, 1, none⟩ (.slice y1 y2 y3)) w.heap.size) := (set2_blk _ _ _ _ _ (by omega)).trans M06
        have MW9 : Hid (((w6.setCell ⟨q7, 0, none⟩ (.slice x1 x2 x3)).setCell ⟨q7, 1, none⟩ (.slice y1 y2 y3)).heap[q6]? = some (.cells #[.slice none 0 0, .slice none 0 0, .int .i64 (k : Int), .int .i64 3] 27)) := (set2_blk _ _ _ _ _ (by omega)).trans MW6
        have B9 := Lib.hid (((HC.out.bel.trans B6.out).setCell (p := ⟨q7, 0, none⟩) (by show w.heap.size ≤ q7; omega) (.slice x1 x2 x3)).setCell (p := ⟨q7, 1, none⟩) (by show w.heap.size ≤ q7; omega) (.slice y1 y2 y3))
        clear cQ MQ6 MQ7 MQ8
        generalize ((w6.setCell ⟨q7, 0, none⟩ (.slice x1 x2 x3)).setCell ⟨q7, 1, none⟩ (.slice y1 y2 y3)) = W9 at *
        refine hK.out _ _ ?_ (fun hHeld => ?_)
        · exact ⟨by rw [(cellsAt MT9.out).1]; rfl, by rw [(cellsAt MT9.out).1]; rfl, by rw [(cellsAt MG9.out).1, ← (cellsAt HC.out.m1).1]; exact HS12.out.2.2⟩
        clear hK K
        refine wpAnyH_take (i := 11) (oi := _) (v := ?_) rfl (by kernel_rfl) (by kernel_rfl) (by kernel_rfl) (fun _ _ _ h => h) (Or.inl ⟨by rfl, ?_⟩) (by assumption) ?_
        rotate_left
        · first | (intro w hSw; (try dsimp only at hSw); go_simp; done) | (intro w hSw; (try dsimp only at hSw); go_simp; with_reducible rfl)
        try simp only [Act.put, List.setIfInBounds_toArray, List.set_cons_zero, List.set_cons_succ, List.getElem_toArray, List.getElem_cons_succ, List.getElem_cons_zero]
        refine wpAnyH_done (by kernel_rfl) ?_ _
        clear hHeld MT6 MG6 M06 MW6 HMW
        cases ok with
        | false =>
          have HO : Hid (outS s = ([], [], (k : Int), 3)) := by
            show _ = _
            rw [HF.out]
            apply HB.out
            rw [H0.out.run]
            have hlt : k < (L.take (L.length - 1)).length := by rw [List.length_take, HN.out]; omega
            rw [List.drop_eq_getElem_cons hlt]
            have hll : (L.take (L.length - 1))[k] = l := by have := (List.getElem?_eq_some_iff.1 HLl.out).2; simp [this]
            rw [hll]
            rcases HR6.out with hh | hh
            · exact runL_none hh.2
            · exact absurd hh.1 (by simp)
          have c7 := cellsAt M09.out
          have c6 := cellsAt MW9.out
          go_wp2_with fail
          have MS0 := heap_setCell_same W9 w.heap.size 0 _ 27 (.slice none 0 0) M09.out
          have MS1 := heap_setCell_same (W9.setCell ⟨w.heap.size, 0, none⟩ (.slice none 0 0)) w.heap.size 1 _ 27 (.slice none 0 0) MS0
          have MS2 := heap_setCell_same ((W9.setCell ⟨w.heap.size, 0, none⟩ (.slice none 0 0)).setCell ⟨w.heap.size, 1, none⟩ (.slice none 0 0)) w.heap.size 2 _ 27 (.int .i64 (k : Int)) MS1
          have MS3 := heap_setCell_same (((W9.setCell ⟨w.heap.size, 0, none⟩ (.slice none 0 0)).setCell ⟨w.heap.size, 1, none⟩ (.slice none 0 0)).setCell ⟨w.heap.size, 2, none⟩ (.int .i64 (k : Int))) w.heap.size 3 _ 27 (.int .i64 3) MS2
          have BS := Lib.hid ((((B9.out.setCell (p := ⟨w.heap.size, 0, none⟩) (Nat.le_refl _) (.slice none 0 0)).setCell (p := ⟨w.heap.size, 1, none⟩) (Nat.le_refl _) (.slice none 0 0)).setCell (p := ⟨w.heap.size, 2, none⟩) (Nat.le_refl _) (.int .i64 (k : Int))).setCell (p := ⟨w.heap.size, 3, none⟩) (Nat.le_refl _) (.int .i64 3))
          generalize (((W9.setCell ⟨w.heap.size, 0, none⟩ (.slice none 0 0)).setCell ⟨w.heap.size, 1, none⟩ (.slice none 0 0)).setCell ⟨w.heap.size, 2, none⟩ (.int .i64 (k : Int))).setCell ⟨w.heap.size, 3, none⟩ (.int .i64 3) = w8 at *
          have z0 : w8.cell? ⟨w.heap.size, 0, none⟩ = some (.slice none 0 0) := by rw [(cellsAt MS3).1]; rfl
          have z1 : w8.cell? ⟨w.heap.size, 1, none⟩ = some (.slice none 0 0) := by rw [(cellsAt MS3).1]; rfl
          have z2 : w8.cell? ⟨w.heap.size, 2, none⟩ = some (.int .i64 (k : Int)) := by rw [(cellsAt MS3).1]; rfl
          have z3 : w8.cell? ⟨w.heap.size, 3, none⟩ = some (.int .i64 3) := by rw [(cellsAt MS3).1]; rfl
          exact bodyPost_ret (v := .agg #[.slice none 0 0, .slice none 0 0, .int .i64 (k : Int), .int .i64 3]) (by simp [results, Tryd.results4, go_sem, z0, z1, z2, z3]) rfl (rd_err HO.out BS.out)
        | true =>
          have c9 := cellsAt MQ9.out
          have cT := cellsAt MT9.out
          have R7 : Hid (∃ rs' ps', RJ w L g cur tb (k + 1) (.slice x1 x2 x3) (.slice y1 y2 y3) rs' ps' ((W9.setCell ⟨tb, 0, none⟩ (.slice x1 x2 x3)).setCell ⟨tb, 1, none⟩ (.slice y1 y2 y3))) := by
            rcases HR6.out with hh | ⟨-, rs', ps', ho, hh⟩
            · exact absurd hh.1 (by simp)
            · exact ⟨rs', ps', HC.out.step HLl.out (by rw [HN.out]; omega) M09.out MG9.out MT9.out B9.out (OW9.out rs' ps' ho) hh hnt hgt⟩
          go_wp2_with fail
          generalize (W9.setCell ⟨tb, 0, none⟩ (.slice x1 x2 x3)).setCell ⟨tb, 1, none⟩ (.slice y1 y2 y3) = w10 at *
          go_roundw
          case rel =>
            obtain ⟨rs', ps', hR⟩ := R7.out
            exact ⟨k + 1, _, _, rs', ps', by go_num, by omega, hR⟩
          case measure => simp [intOf]; omega
    · obtain rfl : k = n := by omega
      have hgd : L.getD (L.length - 1) [] = l := by rw [HN.out, Nat.add_sub_cancel, List.getD_eq_getElem?_getD, HLl.out, Option.getD_some]
      have HO := Lib.hid (HF.out.trans (HE.out (bare rs, ps) (by
        rw [H0.out.run, List.drop_of_length_le (by rw [List.length_take, HN.out]; omega)]
        rfl)))
      rw [hgd, HN.out, Nat.add_sub_cancel] at HO
      have bW := bA0 wr (.cells #[.slice none 0 0, .slice none 0 0, .int .i64 (k : Int), .int .i64 3] 27)
      have H1 := Lib.hid (H0.out.below bW)
      have MW := new_at wr (.cells #[.slice none 0 0, .slice none 0 0, .int .i64 (k : Int), .int .i64 3] 27)
      have cW := cellsAt MW
      have cT := cellsAt H1.out.m2
      have c0 := cellsAt H1.out.m0
      have q1 : (wr.alloc (.cells #[.slice none 0 0, .slice none 0 0, .int .i64 (k : Int), .int .i64 3] 27)).cell? ⟨g, k, none⟩ = some (.string ⟨l.toArray⟩) := (bW.cell (Array.getElem?_eq_some_iff.1 H0.out.m1).1).trans qg
      clear hgd h1 hlm qg bW MW HLl hk
      by_cases hz : k = 0
      · subst hz
        have HOX : Hid (outS s = ([], [], 0, 3)) := by
          show _ = _
          rw [HO.out, if_pos (.inl rfl)]
          rfl
        clear HO
        have e0 : ((0 : Nat) : Int) = 0 := rfl
        rw [e0] at H1 cW cT c0 q1
        clear e0
        by_cases hl : l = []
        · subst hl
          go_wp2_with fail
          generalize (wr.alloc (.cells #[.slice none 0 0, .slice none 0 0, .int .i64 0, .int .i64 3] 27)) = wd at *
          have MS0 := heap_setCell_same wd w.heap.size 0 _ 27 (.slice none 0 0) H1.out.m0
          have MS1 := heap_setCell_same (wd.setCell ⟨w.heap.size, 0, none⟩ (.slice none 0 0)) w.heap.size 1 _ 27 (.slice none 0 0) MS0
          have MS2 := heap_setCell_same ((wd.setCell ⟨w.heap.size, 0, none⟩ (.slice none 0 0)).setCell ⟨w.heap.size, 1, none⟩ (.slice none 0 0)) w.heap.size 2 _ 27 (.int .i64 0) MS1
          have MS3 := heap_setCell_same (((wd.setCell ⟨w.heap.size, 0, none⟩ (.slice none 0 0)).setCell ⟨w.heap.size, 1, none⟩ (.slice none 0 0)).setCell ⟨w.heap.size, 2, none⟩ (.int .i64 0)) w.heap.size 3 _ 27 (.int .i64 3) MS2
          have BS := Lib.hid ((((H1.out.bel.setCell (p := ⟨w.heap.size, 0, none⟩) (Nat.le_refl _) (.slice none 0 0)).setCell (p := ⟨w.heap.size, 1, none⟩) (Nat.le_refl _) (.slice none 0 0)).setCell (p := ⟨w.heap.size, 2, none⟩) (Nat.le_refl _) (.int .i64 0)).setCell (p := ⟨w.heap.size, 3, none⟩) (Nat.le_refl _) (.int .i64 3))
          generalize (((wd.setCell ⟨w.heap.size, 0, none⟩ (.slice none 0 0)).setCell ⟨w.heap.size, 1, none⟩ (.slice none 0 0)).setCell ⟨w.heap.size, 2, none⟩ (.int .i64 0)).setCell ⟨w.heap.size, 3, none⟩ (.int .i64 3) = w8 at *
          have z0 : w8.cell? ⟨w.heap.size, 0, none⟩ = some (.slice none 0 0) := by rw [(cellsAt MS3).1]; rfl
          have z1 : w8.cell? ⟨w.heap.size, 1, none⟩ = some (.slice none 0 0) := by rw [(cellsAt MS3).1]; rfl
          have z2 : w8.cell? ⟨w.heap.size, 2, none⟩ = some (.int .i64 0) := by rw [(cellsAt MS3).1]; rfl
          have z3 : w8.cell? ⟨w.heap.size, 3, none⟩ = some (.int .i64 3) := by rw [(cellsAt MS3).1]; rfl
          exact bodyPost_ret (v := .agg #[.slice none 0 0, .slice none 0 0, .int .i64 0, .int .i64 3]) (by simp [results, Tryd.results4, go_sem, z0, z1, z2, z3]) rfl (rd_err HOX.out BS.out)
        · have he : l.isEmpty = false := by cases l with | nil => exact absurd rfl hl | cons _ _ => rfl
          have he2 : (l = []) = False := eq_false hl
          go_wp2_with fail
          generalize (wr.alloc (.cells #[.slice none 0 0, .slice none 0 0, .int .i64 0, .int .i64 3] 27)) = wd at *
          have MS0 := heap_setCell_same wd w.heap.size 0 _ 27 (.slice none 0 0) H1.out.m0
          have MS1 := heap_setCell_same (wd.setCell ⟨w.heap.size, 0, none⟩ (.slice none 0 0)) w.heap.size 1 _ 27 (.slice none 0 0) MS0
          have MS2 := heap_setCell_same ((wd.setCell ⟨w.heap.size, 0, none⟩ (.slice none 0 0)).setCell ⟨w.heap.size, 1, none⟩ (.slice none 0 0)) w.heap.size 2 _ 27 (.int .i64 0) MS1
          have MS3 := heap_setCell_same (((wd.setCell ⟨w.heap.size, 0, none⟩ (.slice none 0 0)).setCell ⟨w.heap.size, 1, none⟩ (.slice none 0 0)).setCell ⟨w.heap.size, 2, none⟩ (.int .i64 0)) w.heap.size 3 _ 27 (.int .i64 3) MS2
          have BS := Lib.hid ((((H1.out.bel.setCell (p := ⟨w.heap.size, 0, none⟩) (Nat.le_refl _) (.slice none 0 0)).setCell (p := ⟨w.heap.size, 1, none⟩) (Nat.le_refl _) (.slice none 0 0)).setCell (p := ⟨w.heap.size, 2, none⟩) (Nat.le_refl _) (.int .i64 0)).setCell (p := ⟨w.heap.size, 3, none⟩) (Nat.le_refl _) (.int .i64 3))
          generalize (((wd.setCell ⟨w.heap.size, 0, none⟩ (.slice none 0 0)).setCell ⟨w.heap.size, 1, none⟩ (.slice none 0 0)).setCell ⟨w.heap.size, 2, none⟩ (.int .i64 0)).setCell ⟨w.heap.size, 3, none⟩ (.int .i64 3) = w8 at *
          have z0 : w8.cell? ⟨w.heap.size, 0, none⟩ = some (.slice none 0 0) := by rw [(cellsAt MS3).1]; rfl
          have z1 : w8.cell? ⟨w.heap.size, 1, none⟩ = some (.slice none 0 0) := by rw [(cellsAt MS3).1]; rfl
          have z2 : w8.cell? ⟨w.heap.size, 2, none⟩ = some (.int .i64 0) := by rw [(cellsAt MS3).1]; rfl
          have z3 : w8.cell? ⟨w.heap.size, 3, none⟩ = some (.int .i64 3) := by rw [(cellsAt MS3).1]; rfl
          exact bodyPost_ret (v := .agg #[.slice none 0 0, .slice none 0 0, .int .i64 0, .int .i64 3]) (by simp [results, Tryd.results4, go_sem, z0, z1, z2, z3]) rfl (rd_err HOX.out BS.out)
      · have hz1 : ((k : Int) == 0) = false := by rw [beq_eq_false_iff_ne]; omega
        have hz2 : ((k : Int) = 0) = False := eq_false (by omega)
        have hz3 : (k = 0) = False := eq_false hz
        by_cases hl : l = []
        · subst hl
          have HOX : Hid (outS s = (bare rs, ps, 0, 0)) := by
            show _ = _
            rw [HO.out, if_neg (by rintro (h | h); exact hz h; exact h rfl)]
          clear HO
          go_wp2_with fail
          generalize (wr.alloc (.cells #[.slice none 0 0, .slice none 0 0, .int .i64 (k : Int), .int .i64 3] 27)) = wd at *
          have MS0 := heap_setCell_same wd w.heap.size 0 _ 27 (.slice a1 a2 a3) H1.out.m0
          have MS1 := heap_setCell_same (wd.setCell ⟨w.heap.size, 0, none⟩ (.slice a1 a2 a3)) w.heap.size 1 _ 27 (.slice d1 d2 d3) MS0
          have MS2 := heap_setCell_same ((wd.setCell ⟨w.heap.size, 0, none⟩ (.slice a1 a2 a3)).setCell ⟨w.heap.size, 1, none⟩ (.slice d1 d2 d3)) w.heap.size 2 _ 27 (.int .i64 0) MS1
          have MS3 := heap_setCell_same (((wd.setCell ⟨w.heap.size, 0, none⟩ (.slice a1 a2 a3)).setCell ⟨w.heap.size, 1, none⟩ (.slice d1 d2 d3)).setCell ⟨w.heap.size, 2, none⟩ (.int .i64 0)) w.heap.size 3 _ 27 (.int .i64 0) MS2
          have BS := Lib.hid ((((H1.out.bel.setCell (p := ⟨w.heap.size, 0, none⟩) (Nat.le_refl _) (.slice a1 a2 a3)).setCell (p := ⟨w.heap.size, 1, none⟩) (Nat.le_refl _) (.slice d1 d2 d3)).setCell (p := ⟨w.heap.size, 2, none⟩) (Nat.le_refl _) (.int .i64 0)).setCell (p := ⟨w.heap.size, 3, none⟩) (Nat.le_refl _) (.int .i64 0))
          have OS := Lib.hid ((((H1.out.ow.keptM H1.out.m0 (grown_set _ w.heap.size 0 (.slice a1 a2 a3))).keptM MS0 (grown_set _ w.heap.size 1 (.slice d1 d2 d3))).keptM MS1 (grown_set _ w.heap.size 2 (.int .i64 0))).keptM MS2 (grown_set _ w.heap.size 3 (.int .i64 0)))
          generalize (((wd.setCell ⟨w.heap.size, 0, none⟩ (.slice a1 a2 a3)).setCell ⟨w.heap.size, 1, none⟩ (.slice d1 d2 d3)).setCell ⟨w.heap.size, 2, none⟩ (.int .i64 0)).setCell ⟨w.heap.size, 3, none⟩ (.int .i64 0) = w8 at *
          have z0 : w8.cell? ⟨w.heap.size, 0, none⟩ = some (.slice a1 a2 a3) := by rw [(cellsAt MS3).1]; rfl
          have z1 : w8.cell? ⟨w.heap.size, 1, none⟩ = some (.slice d1 d2 d3) := by rw [(cellsAt MS3).1]; rfl
          have z2 : w8.cell? ⟨w.heap.size, 2, none⟩ = some (.int .i64 0) := by rw [(cellsAt MS3).1]; rfl
          have z3 : w8.cell? ⟨w.heap.size, 3, none⟩ = some (.int .i64 0) := by rw [(cellsAt MS3).1]; rfl
          exact bodyPost_ret (v := .agg #[.slice a1 a2 a3, .slice d1 d2 d3, .int .i64 0, .int .i64 0]) (by simp [results, Tryd.results4, go_sem, z0, z1, z2, z3]) rfl ⟨_, _, rs, ps, 0, 0, rfl, OS.out, HOX.out, BS.out⟩
        · have HOX : Hid (outS s = ([], [], (k : Int), 3)) := by
            show _ = _
            rw [HO.out, if_pos (.inr hl)]
          have he : l.isEmpty = false := by cases l with | nil => exact absurd rfl hl | cons _ _ => rfl
          have he2 : (l = []) = False := eq_false hl
          clear HO
          go_wp2_with fail
          generalize (wr.alloc (.cells #[.slice none 0 0, .slice none 0 0, .int .i64 (k : Int), .int .i64 3] 27)) = wd at *
          have MS0 := heap_setCell_same wd w.heap.size 0 _ 27 (.slice none 0 0) H1.out.m0
          have MS1 := heap_setCell_same (wd.setCell ⟨w.heap.size, 0, none⟩ (.slice none 0 0)) w.heap.size 1 _ 27 (.slice none 0 0) MS0
          have MS2 := heap_setCell_same ((wd.setCell ⟨w.heap.size, 0, none⟩ (.slice none 0 0)).setCell ⟨w.heap.size, 1, none⟩ (.slice none 0 0)) w.heap.size 2 _ 27 (.int .i64 (k : Int)) MS1
          have MS3 := heap_setCell_same (((wd.setCell ⟨w.heap.size, 0, none⟩ (.slice none 0 0)).setCell ⟨w.heap.size, 1, none⟩ (.slice none 0 0)).setCell ⟨w.heap.size, 2, none⟩ (.int .i64 (k : Int))) w.heap.size 3 _ 27 (.int .i64 3) MS2
          have BS := Lib.hid ((((H1.out.bel.setCell (p := ⟨w.heap.size, 0, none⟩) (Nat.le_refl _) (.slice none 0 0)).setCell (p := ⟨w.heap.size, 1, none⟩) (Nat.le_refl _) (.slice none 0 0)).setCell (p := ⟨w.heap.size, 2, none⟩) (Nat.le_refl _) (.int .i64 (k : Int))).setCell (p := ⟨w.heap.size, 3, none⟩) (Nat.le_refl _) (.int .i64 3))
          generalize (((wd.setCell ⟨w.heap.size, 0, none⟩ (.slice none 0 0)).setCell ⟨w.heap.size, 1, none⟩ (.slice none 0 0)).setCell ⟨w.heap.size, 2, none⟩ (.int .i64 (k : Int))).setCell ⟨w.heap.size, 3, none⟩ (.int .i64 3) = w8 at *
          have z0 : w8.cell? ⟨w.heap.size, 0, none⟩ = some (.slice none 0 0) := by rw [(cellsAt MS3).1]; rfl
          have z1 : w8.cell? ⟨w.heap.size, 1, none⟩ = some (.slice none 0 0) := by rw [(cellsAt MS3).1]; rfl
          have z2 : w8.cell? ⟨w.heap.size, 2, none⟩ = some (.int .i64 (k : Int)) := by rw [(cellsAt MS3).1]; rfl
          have z3 : w8.cell? ⟨w.heap.size, 3, none⟩ = some (.int .i64 3) := by rw [(cellsAt MS3).1]; rfl
          exact bodyPost_ret (v := .agg #[.slice none 0 0, .slice none 0 0, .int .i64 (k : Int), .int .i64 3]) (by simp [results, Tryd.results4, go_sem, z0, z1, z2, z3]) rfl (rd_err HOX.out BS.out)

end Go.Proofs.YtdndhhkpbcpalaaDoor
