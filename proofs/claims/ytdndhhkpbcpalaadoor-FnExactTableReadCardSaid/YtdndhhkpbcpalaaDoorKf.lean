/-
  A TABLE WITH A LINE BEHIND IT: impl.withLine.
-/
import Derived.Test.YtdndhhkpbcpalaaDoorKe
import Derived.Test.YtdndhhkpbcpalaaDoorLh
import Derived.Test.YtdndhhkpbcpalaaDoorLg
namespace Go.Proofs.YtdndhhkpbcpalaaDoor
open Go.RowKit
set_option linter.unusedVariables false
set_option linter.unusedSimpArgs false

theorem wf_range {a : Int} (h : 0 ≤ a) (h1 : a ≤ 10000000000000) : wfI a := by
  unfold wfI
  have e1 : IntKind.i64.min = -9223372036854775808 := by rfl
  have e2 : IntKind.i64.max = 9223372036854775807 := by rfl
  simp [Lit.wf, e1, e2]
  omega
theorem kind_cases (x : List UInt8) (h : kindOf x ≠ 0) : kindOf x = 1 ∨ kindOf x = 2 ∨ kindOf x = 3 := by
  unfold kindOf at h ⊢
  by_cases h1 : x = staW
  · rw [if_pos h1]; omega
  · rw [if_neg h1] at h ⊢
    by_cases h2 : x = samW
    · rw [if_pos h2]; omega
    · rw [if_neg h2] at h ⊢
      by_cases h3 : x = besW
      · rw [if_pos h3]; omega
      · rw [if_neg h3] at h; exact absurd rfl h
theorem split_small (c : UInt8) (t : List UInt8) : ∀ x ∈ splitL c t, x.length ≤ t.length := by
  have key : ∀ (t : List UInt8) (s : List (List UInt8) × List UInt8), (∀ x ∈ (t.foldl (spS c) s).1, x ∈ s.1 ∨ x.length ≤ s.2.length + t.length) ∧ (t.foldl (spS c) s).2.length ≤ s.2.length + t.length := by
    intro t
    induction t with
    | nil => intro s; exact ⟨fun x hx => .inl hx, by simp⟩
    | cons b r ih =>
      intro s
      rw [List.foldl_cons]
      have h := ih (spS c s b)
      unfold spS at h ⊢
      by_cases hb : b = c
      · simp only [if_pos hb] at h ⊢
        refine ⟨fun x hx => ?_, by have := h.2; simp at this ⊢; omega⟩
        rcases h.1 x hx with h1 | h1
        · rcases List.mem_append.1 h1 with h2 | h2
          · exact .inl h2
          · rw [List.mem_singleton.1 h2]; exact .inr (by omega)
        · exact .inr (by simp at h1 ⊢; omega)
      · simp only [if_neg hb] at h ⊢
        refine ⟨fun x hx => ?_, by have := h.2; simp at this ⊢; omega⟩
        rcases h.1 x hx with h1 | h1
        · exact .inl h1
        · exact .inr (by simp at h1 ⊢; omega)
  intro x hx
  have h := key t ([], [])
  unfold splitL spF at hx
  rcases List.mem_append.1 hx with h1 | h1
  · rcases h.1 x h1 with h2 | h2
    · cases h2
    · simpa using h2
  · rw [List.mem_singleton.1 h1]
    simpa using h.2
theorem split_ne (c : UInt8) (l : List UInt8) : ∃ w ws, splitL c l = w :: ws := by
  have := (split_len c l).1
  match h : splitL c l, this with
  | w :: ws, _ => exact ⟨w, ws, rfl⟩
set_option maxRecDepth 100000 in
set_option maxHeartbeats 8000000 in
/-- impl.withLine. -/
theorem wl_any (C : Nat) (v1 v2 : Value) (rs : List LSt) (ps : List LPr) (s : ByteArray) (w : World) (h : OwT w C v1 v2 rs ps) (hB : C ≤ w.heap.size) (hr : rs.length ≤ 100000) (hp : ps.length ≤ 100000) (hw : ∀ p ∈ ps, WfP p)
    (hs : s.size ≤ 20000) (hpw : PowTab w) (TR0 : TR38) : Calls Tryd.prog 12 #[.agg #[v1, v2], .string s] w fun e w' => LinePost C v1 v2 w (lineP (bare rs) ps s.data.toList) e w' := by
  obtain ⟨sl1, n1, cap1, rfl⟩ := IsSl.own h.r1
  obtain ⟨sl2, n2, cap2, rfl⟩ := IsSl.own h.r2
  obtain ⟨wd, ps', hsp⟩ := split_ne 32 s.data.toList
  have HL : Hid (lineP (bare rs) ps s.data.toList = if ps'.all numI = true ∧ kindOf wd ≠ 0 then numsP (bare rs) ps (kindOf wd) (ps'.map digv) else none) := by
    show _ = _
    rw [lineP_nums, hsp]
    rfl
  have hlen : (wd :: ps').length ≤ 20001 := by
    have := (split_len 32 s.data.toList).2
    rw [hsp] at this
    have e : s.data.toList.length = s.size := rfl
    rw [e] at this
    omega
  have hsmall : ∀ x ∈ wd :: ps', x.length ≤ 1000000 := by
    intro x hx
    rw [← hsp] at hx
    have := split_small 32 s.data.toList x hx
    have e : s.data.toList.length = s.size := rfl
    omega
  have HW := Lib.hid hw
  have TR := Lib.hid TR0
  have HPW := Lib.hid hpw
  clear hw TR0 hpw
  have H := Lib.hid h
  clear h
  have B0 := Lib.hid (bA (bA0 w (.cells #[.slice sl1 n1 cap1, .slice sl2 n2 cap2] 25)) (.cells #[.slice none 0 0, .slice none 0 0] 25))
  have N0 := Lib.hid (new_at w (.cells #[.slice sl1 n1 cap1, .slice sl2 n2 cap2] 25))
  have M1 : Hid (((w.alloc (.cells #[.slice sl1 n1 cap1, .slice sl2 n2 cap2] 25)).alloc (.cells #[.slice none 0 0, .slice none 0 0] 25)).heap[w.heap.size + 1]? = some (.cells #[.slice none 0 0, .slice none 0 0] 25)) := by
    have := new_at (w.alloc (.cells #[.slice sl1 n1 cap1, .slice sl2 n2 cap2] 25)) (.cells #[.slice none 0 0, .slice none 0 0] 25)
    have hs1 : (w.alloc (.cells #[.slice sl1 n1 cap1, .slice sl2 n2 cap2] 25)).heap.size = w.heap.size + 1 := by simp
    rw [hs1] at this
    exact this
  have M0 : Hid (((w.alloc (.cells #[.slice sl1 n1 cap1, .slice sl2 n2 cap2] 25)).alloc (.cells #[.slice none 0 0, .slice none 0 0] 25)).heap[w.heap.size]? = some (.cells #[.slice sl1 n1 cap1, .slice sl2 n2 cap2] 25)) := ((bA0 (w.alloc (.cells #[.slice sl1 n1 cap1, .slice sl2 n2 cap2] 25)) (.cells #[.slice none 0 0, .slice none 0 0] 25)).block w.heap.size (by simp)).trans N0.out
  have hsz : ((w.alloc (.cells #[.slice sl1 n1 cap1, .slice sl2 n2 cap2] 25)).alloc (.cells #[.slice none 0 0, .slice none 0 0] 25)).heap.size = w.heap.size + 1 + 1 := by simp
  have BW := Lib.hid (blw_any s ((w.alloc (.cells #[.slice sl1 n1 cap1, .slice sl2 n2 cap2] 25)).alloc (.cells #[.slice none 0 0, .slice none 0 0] 25)) (by omega))
  rw [hsp] at BW
  go_enter Tryd.func12, Tryd.ntmps12
  go_wp2_with fail
  refine BW.out.mono ?_
  rintro e w1 ⟨v6, rfl, ow6, b1⟩
  obtain ⟨g, cap, rfl, hcap, gl, gc⟩ : ∃ g cap, v6 = .slice (some ⟨g, 0, none⟩) (ps'.length + 1) cap ∧ ps'.length + 1 ≤ cap ∧ g < w1.heap.size ∧ ∀ i x, (wd :: ps')[i]? = some x → w1.cell? ⟨g, i, none⟩ = some (strV x) := by
    rcases ow6.2 with ⟨_, h0⟩ | ⟨g, cap, cur, e, _, hgb, hl, _⟩
    · simp at h0
    · subst e
      refine ⟨g, cap, rfl, by simpa using hl, (Array.getElem?_eq_some_iff.1 hgb).1, fun i x hx => ?_⟩
      have hi := (List.getElem?_eq_some_iff.1 hx).1
      rw [ow6.cellAt i (by omega)]
      unfold strs
      rw [List.getElem?_map, hx]
      rfl
  have B1 := Lib.hid (bT B0.out b1)
  have M01 := Lib.hid ((b1.block w.heap.size (by omega)).trans M0.out)
  have M11 := Lib.hid ((b1.block (w.heap.size + 1) (by omega)).trans M1.out)
  have H1 := Lib.hid ((H.out.below B0.out).below b1)
  have HS := b1.size
  rw [hsz] at HS
  have KX : Hid (∀ W, Below w1.heap.size w1 W → g < W.heap.size ∧ W.cell? ⟨g, 0, none⟩ = some (.string ⟨wd.toArray⟩)) := fun W hW => ⟨Nat.lt_of_lt_of_le gl hW.size, (hW.cell (p := ⟨g, 0, none⟩) gl).trans (gc 0 wd rfl)⟩
  have NB : Hid (∀ W, Below w1.heap.size w1 W → Calls Tryd.prog 23 #[.slice (some ⟨g, 1, none⟩) ps'.length (cap - 1)] W fun e w' => ∃ v, e = .returned (.tuple #[v, .bool (ps'.all numI)]) ∧ (ps'.all numI = true → w'.ownsRow W.heap.size 2 1 v ps'.length (valsZ (ps'.map digv))) ∧ (∃ sl n c, v = .slice sl n c) ∧ Below W.heap.size W w') := fun W hW => nbs_any g 1 (cap - 1) ps' W (by simp at hlen; omega) (fun x hx => hsmall x (List.mem_cons_of_mem _ hx)) (Nat.lt_of_lt_of_le gl hW.size) (fun i x hx => (hW.cell (p := ⟨g, 1 + i, none⟩) gl).trans (by rw [Nat.add_comm]; exact gc (i + 1) x (by rw [List.getElem?_cons_succ]; exact hx))) (HPW.out.below (bT B1.out hW))
  have NB0 : Hid (cap = 1 → ∀ W, Below w1.heap.size w1 W → Calls Tryd.prog 23 #[.slice (some ⟨g, 0, none⟩) ps'.length 0] W fun e w' => ∃ v, e = .returned (.tuple #[v, .bool (ps'.all numI)]) ∧ (ps'.all numI = true → w'.ownsRow W.heap.size 2 1 v ps'.length (valsZ (ps'.map digv))) ∧ (∃ sl n c, v = .slice sl n c) ∧ Below W.heap.size W w') := fun h1 W hW => nbs_any g 0 0 ps' W (by omega) (fun x hx => hsmall x (List.mem_cons_of_mem _ hx)) (Nat.lt_of_lt_of_le gl hW.size) (fun i x hx => by
    have := (List.getElem?_eq_some_iff.1 hx).1
    omega) (HPW.out.below (bT B1.out hW))
  clear ow6 b1 BW gc HPW N0 M0 M1 hsz hsmall hsp B0
  have hlp : ps'.length ≤ 20000 := by simp at hlen; omega
  clear hlen
  have HS' : w.heap.size + 1 < w1.heap.size := by omega
  have HS0 : w.heap.size < w1.heap.size := by omega
  clear HS
  generalize hW0 : (w.alloc (.cells #[.slice sl1 n1 cap1, .slice sl2 n2 cap2] 25)).alloc (.cells #[.slice none 0 0, .slice none 0 0] 25) = w0 at *
  clear hW0
  go_wp2_with fail
  have g0 : ((0 : Int) < (ps'.length : Int) + 1) = True := by simp only [eq_iff_iff, iff_true]; omega
  refine wp_region_held_drew (S := fun W => g < W.heap.size ∧ W.cell? ⟨g, 0, none⟩ = some (.string ⟨wd.toArray⟩)) (by kernel_rfl) ?_ (fun hHeld => ?_)
  · exact KX.out _ ((Below.refl _ _).drew)
  refine wpAnyH_take (i := 1) (oi := _) (v := ?_) rfl (by kernel_rfl) (by kernel_rfl) (by kernel_rfl) (fun _ _ _ h => h) (Or.inl ⟨by rfl, ?_⟩) (by assumption) ?_
  rotate_left
  · first | (intro w hSw; (try dsimp only at hSw); go_simp; done) | (intro w hSw; (try dsimp only at hSw); go_simp; with_reducible rfl)
  try simp only [Act.put, List.setIfInBounds_toArray, List.set_cons_zero, List.set_cons_succ, List.getElem_toArray, List.getElem_cons_succ, List.getElem_cons_zero]
  refine wpAnyH_take (i := 2) (oi := _) (v := ?_) rfl (by kernel_rfl) (by kernel_rfl) (by kernel_rfl) (fun _ _ _ h => h) (Or.inl ⟨by rfl, ?_⟩) (by assumption) ?_
  rotate_left
  · first | (intro w hSw; (try dsimp only at hSw); go_simp; done) | (intro w hSw; (try dsimp only at hSw); go_simp; with_reducible rfl)
  try simp only [Act.put, List.setIfInBounds_toArray, List.set_cons_zero, List.set_cons_succ, List.getElem_toArray, List.getElem_cons_succ, List.getElem_cons_zero]
  refine wpAnyH_take (i := 3) (oi := _) (v := ?_) rfl (by kernel_rfl) (by kernel_rfl) (by kernel_rfl) (fun _ _ _ h => h) (Or.inl ⟨by rfl, ?_⟩) (by assumption) ?_
  rotate_left
  · first | (intro w hSw; (try dsimp only at hSw); go_simp; done) | (intro w hSw; (try dsimp only at hSw); go_simp; with_reducible rfl)
  try simp only [Act.put, List.setIfInBounds_toArray, List.set_cons_zero, List.set_cons_succ, List.getElem_toArray, List.getElem_cons_succ, List.getElem_cons_zero]
  refine wpAnyH_ready (rs := [0]) (by kernel_rfl) (by simp) ?_
  refine AllReadyH.cons rfl (fun K hK => ?_) AllReadyH.nil
  go_simp
  go_wp2_with (go_at_call 22; refine (lik_any _).mono ?_; rintro e w4 ⟨rfl, m4, b4⟩; have X4 := Lib.hid (((Below.refl w1.heap.size w1).drew).trans b4); have LK : (Instr.lookup 51 (.map (some w1.heap.size)) (.string ⟨wd.toArray⟩) false).run Tryd.prog w4 = .ok (.int .i64 (kindOf wd)) w4 := run_look w4 _ wd m4; clear b4 m4)
  refine hK.out _ _ ?_ (fun hHeld => ?_)
  · exact KX.out _ X4.out
  clear hK K
  refine wpAnyH_ready (rs := [4]) (by kernel_rfl) (by simp) ?_
  refine AllReadyH.cons rfl (fun K hK => ?_) AllReadyH.nil
  go_simp
  try go_wp2
  refine hK.out _ _ ?_ (fun hHeld => ?_)
  · exact KX.out _ X4.out
  clear hK K
  refine wpAnyH_take (i := 5) (oi := _) (v := ?_) rfl (by kernel_rfl) (by kernel_rfl) (by kernel_rfl) (fun _ _ _ h => h) (Or.inl ⟨by rfl, ?_⟩) (by assumption) ?_
  rotate_left
  · first | (intro w hSw; (try dsimp only at hSw); go_simp; done) | (intro w hSw; (try dsimp only at hSw); go_simp; with_reducible rfl)
  try simp only [Act.put, List.setIfInBounds_toArray, List.set_cons_zero, List.set_cons_succ, List.getElem_toArray, List.getElem_cons_succ, List.getElem_cons_zero]
  refine wpAnyH_done (by kernel_rfl) ?_ _
  clear hHeld
  have c1a : (1 : Int) ≤ (ps'.length : Int) + 1 := by omega
  by_cases hc1 : cap = 1
  · go_wp2_with fail
    refine ((NB0.out hc1) _ X4.out).mono ?_
    rintro e w5 ⟨v5, rfl, hv5, ⟨sl5, n5, c5, e5⟩, b5⟩
    have X5 := Lib.hid (bT X4.out b5)
    have M5 := Lib.hid ((X5.out.block w.heap.size (by omega)).trans M01.out)
    have M51 := Lib.hid ((X5.out.block (w.heap.size + 1) (by omega)).trans M11.out)
    have D5 := Lib.hid (bT B1.out X5.out)
    have H5 := Lib.hid (H1.out.below X5.out)
    have c0 := cellsAt M5.out
    have c1 := cellsAt M51.out
    by_cases hn : ps'.all numI = true ∧ kindOf wd ≠ 0
    · have ow5 := own_mono (hv5 hn.1) (show C ≤ w4.heap.size from Nat.le_trans hB (Nat.le_trans B1.out.size X4.out.size))
      have hfr : ∀ s ∈ rs, domB s ≠ v5.ownBlock := fun s hs e => by
        obtain ⟨g', hg', _, hlt⟩ := dom_lt (H.out.dom s hs)
        rw [hg'] at e
        have := (World.ownsRow.lt (hv5 hn.1) g' e.symm).1
        have := B1.out.size
        have := X4.out.size
        omega
      have hk3 := kind_cases wd hn.2
      have hwz : ∀ z ∈ ps'.map digv, wfI z := fun z hz => by
        obtain ⟨x, hx, rfl⟩ := List.mem_map.1 hz
        have hx2 := List.all_eq_true.1 hn.1 x hx
        unfold numI at hx2
        rw [Bool.and_eq_true, decide_eq_true_eq] at hx2
        have := digv_small x hx2.1
        exact wf_range (by omega) (by omega)
      have WN : Hid (Calls Tryd.prog 24 #[.agg #[.slice sl1 n1 cap1, .slice sl2 n2 cap2], .int .i64 (kindOf wd), v5] w5 fun e w' => LinePost C (.slice sl1 n1 cap1) (.slice sl2 n2 cap2) w5 (numsP (bare rs) ps (kindOf wd) (ps'.map digv)) e w') := wn_any C (.slice sl1 n1 cap1) (.slice sl2 n2 cap2) v5 rs ps (kindOf wd) (ps'.map digv) w5 H5.out (Nat.le_trans hB D5.out.size) hr hp (by rw [List.length_map]; omega) (by rw [List.length_map]; exact ow5) hfr hk3 HW.out hwz TR.out
      have HF := Lib.hid (HL.out.trans (by rw [if_pos hn]))
      have ht : ps'.all numI = true := hn.1
      have hkz : (kindOf wd == 0) = false := by rw [beq_eq_false_iff_ne]; exact hn.2
      have hkz2 : (kindOf wd = 0) = False := eq_false hn.2
      rw [ht] at *
      clear ow5 hfr hk3 hwz hv5 b5 hn
      subst e5
      generalize kindOf wd = kd at *
      go_wp2_with fail
      refine WN.out.mono ?_
      rintro e w6 ⟨u1, u2, ok, rfl, ⟨a1, a2, a3, rfl⟩, ⟨d1, d2, d3, rfl⟩, b6, k6, hr6⟩
      have NV1 : (Value.slice sl1 n1 cap1).ownBlock ≠ some (w.heap.size + 1) := fun e => by have := (World.ownsRow.lt H.out.r1 _ e).2; omega
      have NV2 : (Value.slice sl2 n2 cap2).ownBlock ≠ some (w.heap.size + 1) := fun e => by have := (World.ownsRow.lt H.out.r2 _ e).2; omega
      have hl5 : w.heap.size + 1 < w5.heap.size := (Array.getElem?_eq_some_iff.1 M51.out).1
      have M61 := (k6 (w.heap.size + 1) hl5 NV1 NV2).trans M51.out
      have c6 := cellsAt M61
      have KK : Hid (Keep2 (.slice sl1 n1 cap1) (.slice sl2 n2 cap2) w w6) := fun k hk h1 h2 => (k6 k (Nat.lt_of_lt_of_le hk D5.out.size) h1 h2).trans (D5.out.block k hk)
      have BB : Hid (Below C w w6) := (D5.out.mono hB).trans b6
      have M62 := heap_setCell_same w6 (w.heap.size + 1) 0 _ 25 (.slice a1 a2 a3) M61
      have M63 := heap_setCell_same _ (w.heap.size + 1) 1 _ 25 (.slice d1 d2 d3) M62
      have K7 : Hid (Keep2 (.slice sl1 n1 cap1) (.slice sl2 n2 cap2) w ((w6.setCell ⟨w.heap.size + 1, 0, none⟩ (.slice a1 a2 a3)).setCell ⟨w.heap.size + 1, 1, none⟩ (.slice d1 d2 d3))) := fun k hk h1 h2 => ((Below.heap_setCell _ _ _ k (by show k ≠ w.heap.size + 1; omega)).trans (Below.heap_setCell _ _ _ k (by show k ≠ w.heap.size + 1; omega))).trans (KK.out k hk h1 h2)
      have B7 := Lib.hid ((BB.out.setCell (p := ⟨w.heap.size + 1, 0, none⟩) (by show C ≤ w.heap.size + 1; omega) (.slice a1 a2 a3)).setCell (p := ⟨w.heap.size + 1, 1, none⟩) (by show C ≤ w.heap.size + 1; omega) (.slice d1 d2 d3))
      have R7 : Hid ((ok = false ∧ numsP (bare rs) ps kd (ps'.map digv) = none) ∨ (ok = true ∧ ∃ rs' ps'', OwT ((w6.setCell ⟨w.heap.size + 1, 0, none⟩ (.slice a1 a2 a3)).setCell ⟨w.heap.size + 1, 1, none⟩ (.slice d1 d2 d3)) C (.slice a1 a2 a3) (.slice d1 d2 d3) rs' ps'' ∧ numsP (bare rs) ps kd (ps'.map digv) = some (bare rs', ps''))) := by
        rcases hr6 with hh | ⟨h1, rs', ps'', ho, hh⟩
        · exact .inl hh
        · exact .inr ⟨h1, rs', ps'', (ho.keptB M61 (grown_set _ _ _ _)).keptB M62 (grown_set _ _ _ _), hh⟩
      clear hr6 k6 b6 KK BB WN
      go_wp2_with fail
      generalize (w6.setCell ⟨w.heap.size + 1, 0, none⟩ (.slice a1 a2 a3)).setCell ⟨w.heap.size + 1, 1, none⟩ (.slice d1 d2 d3) = w7 at *
      have r0 : w7.cell? ⟨w.heap.size + 1, 0, none⟩ = some (.slice a1 a2 a3) := by rw [(cellsAt M63).1]; rfl
      have r1 : w7.cell? ⟨w.heap.size + 1, 1, none⟩ = some (.slice d1 d2 d3) := by rw [(cellsAt M63).1]; rfl
      exact bodyPost_ret (v := .tuple #[.agg #[.slice a1 a2 a3, .slice d1 d2 d3], .bool ok]) (by simp [results, Tryd.results12, go_sem, r0, r1]) rfl (HF.out ▸ ⟨_, _, ok, rfl, ⟨_, _, _, rfl⟩, ⟨_, _, _, rfl⟩, B7.out, K7.out, R7.out⟩)
    · have HF := Lib.hid (HL.out.trans (by rw [if_neg hn]))
      have M52 := heap_setCell_same w5 (w.heap.size + 1) 0 _ 25 (.slice none 0 0) M51.out
      have M53 := heap_setCell_same _ (w.heap.size + 1) 1 _ 25 (.slice none 0 0) M52
      have D6 := Lib.hid ((D5.out.setCell (p := ⟨w.heap.size + 1, 0, none⟩) (by show w.heap.size ≤ w.heap.size + 1; omega) (.slice none 0 0)).setCell (p := ⟨w.heap.size + 1, 1, none⟩) (by show w.heap.size ≤ w.heap.size + 1; omega) (.slice none 0 0))
      have r0 : ((w5.setCell ⟨w.heap.size + 1, 0, none⟩ (.slice none 0 0)).setCell ⟨w.heap.size + 1, 1, none⟩ (.slice none 0 0)).cell? ⟨w.heap.size + 1, 0, none⟩ = some (.slice none 0 0) := by rw [(cellsAt M53).1]; rfl
      have r1 : ((w5.setCell ⟨w.heap.size + 1, 0, none⟩ (.slice none 0 0)).setCell ⟨w.heap.size + 1, 1, none⟩ (.slice none 0 0)).cell? ⟨w.heap.size + 1, 1, none⟩ = some (.slice none 0 0) := by rw [(cellsAt M53).1]; rfl
      subst e5
      clear hv5 b5 M52 M53
      cases ha : ps'.all numI with
      | false =>
        rw [ha] at *
        generalize kindOf wd = kd at *
        go_wp2_with fail
        generalize (w5.setCell ⟨w.heap.size + 1, 0, none⟩ (.slice none 0 0)).setCell ⟨w.heap.size + 1, 1, none⟩ (.slice none 0 0) = w7 at *
        exact bodyPost_ret (v := .tuple #[.agg #[.slice none 0 0, .slice none 0 0], .bool false]) (by simp [results, Tryd.results12, go_sem, r0, r1]) rfl (HF.out ▸ LinePost.no hB ⟨rfl, D6.out⟩)
      | true =>
        have hkz0 : kindOf wd = 0 := Decidable.byContradiction fun h => hn ⟨ha, h⟩
        rw [ha, hkz0] at *
        clear hn hkz0
        go_wp2_with fail
        generalize (w5.setCell ⟨w.heap.size + 1, 0, none⟩ (.slice none 0 0)).setCell ⟨w.heap.size + 1, 1, none⟩ (.slice none 0 0) = w7 at *
        exact bodyPost_ret (v := .tuple #[.agg #[.slice none 0 0, .slice none 0 0], .bool false]) (by simp [results, Tryd.results12, go_sem, r0, r1]) rfl (HF.out ▸ LinePost.no hB ⟨rfl, D6.out⟩)

  · go_wp2_with fail
    refine (NB.out _ X4.out).mono ?_
    rintro e w5 ⟨v5, rfl, hv5, ⟨sl5, n5, c5, e5⟩, b5⟩
    have X5 := Lib.hid (bT X4.out b5)
    have M5 := Lib.hid ((X5.out.block w.heap.size (by omega)).trans M01.out)
    have M51 := Lib.hid ((X5.out.block (w.heap.size + 1) (by omega)).trans M11.out)
    have D5 := Lib.hid (bT B1.out X5.out)
    have H5 := Lib.hid (H1.out.below X5.out)
    have c0 := cellsAt M5.out
    have c1 := cellsAt M51.out
    by_cases hn : ps'.all numI = true ∧ kindOf wd ≠ 0
    · have ow5 := own_mono (hv5 hn.1) (show C ≤ w4.heap.size from Nat.le_trans hB (Nat.le_trans B1.out.size X4.out.size))
      have hfr : ∀ s ∈ rs, domB s ≠ v5.ownBlock := fun s hs e => by
        obtain ⟨g', hg', _, hlt⟩ := dom_lt (H.out.dom s hs)
        rw [hg'] at e
        have := (World.ownsRow.lt (hv5 hn.1) g' e.symm).1
        have := B1.out.size
        have := X4.out.size
        omega
      have hk3 := kind_cases wd hn.2
      have hwz : ∀ z ∈ ps'.map digv, wfI z := fun z hz => by
        obtain ⟨x, hx, rfl⟩ := List.mem_map.1 hz
        have hx2 := List.all_eq_true.1 hn.1 x hx
        unfold numI at hx2
        rw [Bool.and_eq_true, decide_eq_true_eq] at hx2
        have := digv_small x hx2.1
        exact wf_range (by omega) (by omega)
      have WN : Hid (Calls Tryd.prog 24 #[.agg #[.slice sl1 n1 cap1, .slice sl2 n2 cap2], .int .i64 (kindOf wd), v5] w5 fun e w' => LinePost C (.slice sl1 n1 cap1) (.slice sl2 n2 cap2) w5 (numsP (bare rs) ps (kindOf wd) (ps'.map digv)) e w') := wn_any C (.slice sl1 n1 cap1) (.slice sl2 n2 cap2) v5 rs ps (kindOf wd) (ps'.map digv) w5 H5.out (Nat.le_trans hB D5.out.size) hr hp (by rw [List.length_map]; omega) (by rw [List.length_map]; exact ow5) hfr hk3 HW.out hwz TR.out
      have HF := Lib.hid (HL.out.trans (by rw [if_pos hn]))
      have ht : ps'.all numI = true := hn.1
      have hkz : (kindOf wd == 0) = false := by rw [beq_eq_false_iff_ne]; exact hn.2
      have hkz2 : (kindOf wd = 0) = False := eq_false hn.2
      rw [ht] at *
      clear ow5 hfr hk3 hwz hv5 b5 hn
      subst e5
      generalize kindOf wd = kd at *
      go_wp2_with fail
      refine WN.out.mono ?_
      rintro e w6 ⟨u1, u2, ok, rfl, ⟨a1, a2, a3, rfl⟩, ⟨d1, d2, d3, rfl⟩, b6, k6, hr6⟩
      have NV1 : (Value.slice sl1 n1 cap1).ownBlock ≠ some (w.heap.size + 1) := fun e => by have := (World.ownsRow.lt H.out.r1 _ e).2; omega
      have NV2 : (Value.slice sl2 n2 cap2).ownBlock ≠ some (w.heap.size + 1) := fun e => by have := (World.ownsRow.lt H.out.r2 _ e).2; omega
      have hl5 : w.heap.size + 1 < w5.heap.size := (Array.getElem?_eq_some_iff.1 M51.out).1
      have M61 := (k6 (w.heap.size + 1) hl5 NV1 NV2).trans M51.out
      have c6 := cellsAt M61
      have KK : Hid (Keep2 (.slice sl1 n1 cap1) (.slice sl2 n2 cap2) w w6) := fun k hk h1 h2 => (k6 k (Nat.lt_of_lt_of_le hk D5.out.size) h1 h2).trans (D5.out.block k hk)
      have BB : Hid (Below C w w6) := (D5.out.mono hB).trans b6
      have M62 := heap_setCell_same w6 (w.heap.size + 1) 0 _ 25 (.slice a1 a2 a3) M61
      have M63 := heap_setCell_same _ (w.heap.size + 1) 1 _ 25 (.slice d1 d2 d3) M62
      have K7 : Hid (Keep2 (.slice sl1 n1 cap1) (.slice sl2 n2 cap2) w ((w6.setCell ⟨w.heap.size + 1, 0, none⟩ (.slice a1 a2 a3)).setCell ⟨w.heap.size + 1, 1, none⟩ (.slice d1 d2 d3))) := fun k hk h1 h2 => ((Below.heap_setCell _ _ _ k (by show k ≠ w.heap.size + 1; omega)).trans (Below.heap_setCell _ _ _ k (by show k ≠ w.heap.size + 1; omega))).trans (KK.out k hk h1 h2)
      have B7 := Lib.hid ((BB.out.setCell (p := ⟨w.heap.size + 1, 0, none⟩) (by show C ≤ w.heap.size + 1; omega) (.slice a1 a2 a3)).setCell (p := ⟨w.heap.size + 1, 1, none⟩) (by show C ≤ w.heap.size + 1; omega) (.slice d1 d2 d3))
      have R7 : Hid ((ok = false ∧ numsP (bare rs) ps kd (ps'.map digv) = none) ∨ (ok = true ∧ ∃ rs' ps'', OwT ((w6.setCell ⟨w.heap.size + 1, 0, none⟩ (.slice a1 a2 a3)).setCell ⟨w.heap.size + 1, 1, none⟩ (.slice d1 d2 d3)) C (.slice a1 a2 a3) (.slice d1 d2 d3) rs' ps'' ∧ numsP (bare rs) ps kd (ps'.map digv) = some (bare rs', ps''))) := by
        rcases hr6 with hh | ⟨h1, rs', ps'', ho, hh⟩
        · exact .inl hh
        · exact .inr ⟨h1, rs', ps'', (ho.keptB M61 (grown_set _ _ _ _)).keptB M62 (grown_set _ _ _ _), hh⟩
      clear hr6 k6 b6 KK BB WN
      go_wp2_with fail
      generalize (w6.setCell ⟨w.heap.size + 1, 0, none⟩ (.slice a1 a2 a3)).setCell ⟨w.heap.size + 1, 1, none⟩ (.slice d1 d2 d3) = w7 at *
      have r0 : w7.cell? ⟨w.heap.size + 1, 0, none⟩ = some (.slice a1 a2 a3) := by rw [(cellsAt M63).1]; rfl
      have r1 : w7.cell? ⟨w.heap.size + 1, 1, none⟩ = some (.slice d1 d2 d3) := by rw [(cellsAt M63).1]; rfl
      exact bodyPost_ret (v := .tuple #[.agg #[.slice a1 a2 a3, .slice d1 d2 d3], .bool ok]) (by simp [results, Tryd.results12, go_sem, r0, r1]) rfl (HF.out ▸ ⟨_, _, ok, rfl, ⟨_, _, _, rfl⟩, ⟨_, _, _, rfl⟩, B7.out, K7.out, R7.out⟩)
    · have HF := Lib.hid (HL.out.trans (by rw [if_neg hn]))
      have M52 := heap_setCell_same w5 (w.heap.size + 1) 0 _ 25 (.slice none 0 0) M51.out
      have M53 := heap_setCell_same _ (w.heap.size + 1) 1 _ 25 (.slice none 0 0) M52
      have D6 := Lib.hid ((D5.out.setCell (p := ⟨w.heap.size + 1, 0, none⟩) (by show w.heap.size ≤ w.heap.size + 1; omega) (.slice none 0 0)).setCell (p := ⟨w.heap.size + 1, 1, none⟩) (by show w.heap.size ≤ w.heap.size + 1; omega) (.slice none 0 0))
      have r0 : ((w5.setCell ⟨w.heap.size + 1, 0, none⟩ (.slice none 0 0)).setCell ⟨w.heap.size + 1, 1, none⟩ (.slice none 0 0)).cell? ⟨w.heap.size + 1, 0, none⟩ = some (.slice none 0 0) := by rw [(cellsAt M53).1]; rfl
      have r1 : ((w5.setCell ⟨w.heap.size + 1, 0, none⟩ (.slice none 0 0)).setCell ⟨w.heap.size + 1, 1, none⟩ (.slice none 0 0)).cell? ⟨w.heap.size + 1, 1, none⟩ = some (.slice none 0 0) := by rw [(cellsAt M53).1]; rfl
      subst e5
      clear hv5 b5 M52 M53
      cases ha : ps'.all numI with
      | false =>
        rw [ha] at *
        generalize kindOf wd = kd at *
        go_wp2_with fail
        generalize (w5.setCell ⟨w.heap.size + 1, 0, none⟩ (.slice none 0 0)).setCell ⟨w.heap.size + 1, 1, none⟩ (.slice none 0 0) = w7 at *
        exact bodyPost_ret (v := .tuple #[.agg #[.slice none 0 0, .slice none 0 0], .bool false]) (by simp [results, Tryd.results12, go_sem, r0, r1]) rfl (HF.out ▸ LinePost.no hB ⟨rfl, D6.out⟩)
      | true =>
        have hkz0 : kindOf wd = 0 := Decidable.byContradiction fun h => hn ⟨ha, h⟩
        rw [ha, hkz0] at *
        clear hn hkz0
        go_wp2_with fail
        generalize (w5.setCell ⟨w.heap.size + 1, 0, none⟩ (.slice none 0 0)).setCell ⟨w.heap.size + 1, 1, none⟩ (.slice none 0 0) = w7 at *
        exact bodyPost_ret (v := .tuple #[.agg #[.slice none 0 0, .slice none 0 0], .bool false]) (by simp [results, Tryd.results12, go_sem, r0, r1]) rfl (HF.out ▸ LinePost.no hB ⟨rfl, D6.out⟩)

end Go.Proofs.YtdndhhkpbcpalaaDoor
