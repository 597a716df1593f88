/-
  A PLAN IS SOUGHT: impl.PlanFind and spec.PlanFind.
-/
import Derived.Test.YtgfclllfkpblnaaXc
namespace Go.Proofs.Ytgfclllfkpblnaa
open Go.RowKit
set_option linter.unusedVariables false

theorem idsR_small_x {rs : List LSt} {ps : List LPr} {ids : List Int} (h : IdsR rs ps ids) (x : Int) (hx : x ∈ ids) : 1 ≤ x ∧ x ≤ 999 := by
  have hr := inRise_of h.2.1.2.2.1 h.2.2.1 h.2.2.2
  obtain ⟨i, hi, e⟩ := List.getElem_of_mem hx
  have := (hr i hi).1
  rw [List.getD_eq_getElem?_getD, List.getElem?_eq_getElem hi] at this
  simp only [Option.getD_some] at this
  rw [e] at this
  exact this
theorem ch_small_x {rs : List LSt} {ps : List LPr} {ids : List Int} (top : Int) (h : IdsR rs ps ids) {rows : List LRow} (hm : rows.map (fun r => r.2) = ids.map (chF rs top)) : ∀ r ∈ rows, ∀ x ∈ r.2, Small x := by
  intro r hr x hx
  have : r.2 ∈ ids.map (chF rs top) := by rw [← hm]; exact List.mem_map.2 ⟨r, hr, rfl⟩
  obtain ⟨id, hid, e⟩ := List.mem_map.1 this
  rw [← e] at hx
  unfold chF at hx
  obtain ⟨c, hc, e2⟩ := List.mem_map.1 hx
  have h1 := idsR_small_x h id hid
  have h2 := dom_small rs ps id top c h.2.1 hc
  rw [← e2]
  exact ⟨⟨by show (0 : Int) ≤ id; omega, by show id ≤ 1000; omega⟩, ⟨by show (0 : Int) ≤ c; omega, by show c ≤ 1000; omega⟩⟩
theorem ch_96_x {rs : List LSt} {ps : List LPr} {ids : List Int} (top : Int) (h : TabR rs ps) {rows : List LRow} (hm : rows.map (fun r => r.2) = ids.map (chF rs top)) : ∀ r ∈ rows, r.2.length ≤ 96 := by
  intro r hr
  have : r.2 ∈ ids.map (chF rs top) := by rw [← hm]; exact List.mem_map.2 ⟨r, hr, rfl⟩
  obtain ⟨id, hid, e⟩ := List.mem_map.1 this
  rw [← e]
  unfold chF
  rw [List.length_map]
  exact dom_le rs ps id top h
/-- Is it sought at all? -/
def PfOk (rs : List LSt) (ps : List LPr) (ids : List Int) (bd : Int) : Prop := IdsR rs ps ids ∧ 0 ≤ bd ∧ bd ≤ 2000
def pfS (rs : List LSt) (ps : List LPr) (top : Int) (ids : List Int) (bd : Int) : SRes := seek (fitB ps) bd.toNat (ids.map (chF rs top)) [] 0
noncomputable def pfV (rs : List LSt) (ps : List LPr) (top : Int) (ids : List Int) (bd : Int) : Int := if B (PfOk rs ps ids bd) = true then (pfS rs ps top ids bd).vd else 0
noncomputable def pfP (rs : List LSt) (ps : List LPr) (top : Int) (ids : List Int) (bd : Int) : List LPl := if B (PfOk rs ps ids bd) = true then (pfS rs ps top ids bd).pl else []
noncomputable def pfT (rs : List LSt) (ps : List LPr) (top : Int) (ids : List Int) (bd : Int) : Int := if B (PfOk rs ps ids bd) = true then ((pfS rs ps top ids bd).st : Nat) else 0
noncomputable def pfC (rs : List LSt) (ps : List LPr) (ids : List Int) (bd : Int) : Int := if B (PfOk rs ps ids bd) = true then 0 else if 400 < ids.length then 2 else 1
theorem pf_no {rs : List LSt} {ps : List LPr} {ids : List Int} {bd : Int} (top : Int) (h : ¬ PfOk rs ps ids bd) : pfV rs ps top ids bd = 0 ∧ pfP rs ps top ids bd = [] ∧ pfT rs ps top ids bd = 0 ∧ pfC rs ps ids bd = if 400 < ids.length then 2 else 1 := by
  unfold pfV pfP pfT pfC
  rw [B_no h]
  exact ⟨rfl, rfl, rfl, rfl⟩
theorem pf_yes {rs : List LSt} {ps : List LPr} {ids : List Int} {bd : Int} (top : Int) (h : PfOk rs ps ids bd) : pfV rs ps top ids bd = (pfS rs ps top ids bd).vd ∧ pfP rs ps top ids bd = (pfS rs ps top ids bd).pl ∧ pfT rs ps top ids bd = ((pfS rs ps top ids bd).st : Nat) ∧ pfC rs ps ids bd = 0 := by
  unfold pfV pfP pfT pfC
  rw [B_yes h]
  exact ⟨rfl, rfl, rfl, rfl⟩
abbrev PV (a : Int) (v : Value) (b c : Int) : Value := .agg #[.int .i64 a, v, .int .i64 b, .int .i64 c]

set_option maxRecDepth 100000 in
set_option maxHeartbeats 8000000 in
/-- impl.PlanFind. -/
theorem ipl_any (sl : Option Addr) (cap : Nat) (sl2 : Option Addr) (cap2 : Nat) (sl3 : Option Addr) (cap3 : Nat) (rs : List LSt) (ps : List LPr) (top : Int) (ids : List Int) (bd : Int) (w : World) (hn : rs.length ≤ 1048576) (hl : ids.length ≤ maxLen) (hz : Sts w sl rs) (hp : Prs w sl2 ps) (hw : ∀ p ∈ ps, WfP p) (hi : Ints w sl3 ids) :
    Calls Try.prog 6 #[TV sl rs.length cap sl2 ps.length cap2, .int .i64 top, .slice sl3 ids.length cap3, .int .i64 bd] w fun e w' => ∃ pv, e = .returned (PV (pfV rs ps top ids bd) pv (pfT rs ps top ids bd) (pfC rs ps ids bd)) ∧ w'.ownsRow w.heap.size 62 2 pv (pfP rs ps top ids bd).length (enCells (pfP rs ps top ids bd)) ∧ Below w.heap.size w w' := by
  have E1 : Hid (∀ W, Below w.heap.size w W → Calls Try.prog 22 #[TV sl rs.length cap sl2 ps.length cap2, .slice sl3 ids.length cap3] W fun e w' => e = .returned (.bool (B (IdsR rs ps ids))) ∧ Below W.heap.size W w') := fun W hW => iir_any sl cap sl2 cap2 sl3 cap3 rs ps ids W hn hl (hz.below hW) (hp.below hW) hw (hi.below hW)
  have HT := Lib.hid ((TabAt.new w sl rs.length cap sl2 ps.length cap2).below (bA0 _ (.cells #[.int .i64 0, .slice none 0 0, .int .i64 0, .int .i64 0] 32)))
  have X0 : Hid (BoxP ((w.alloc (.cells #[.slice sl rs.length cap, .slice sl2 ps.length cap2] 26)).alloc (.cells #[.int .i64 0, .slice none 0 0, .int .i64 0, .int .i64 0] 32)) (w.heap.size + 1)) := by
    have := new_at (w.alloc (.cells #[.slice sl rs.length cap, .slice sl2 ps.length cap2] 26)) (.cells #[.int .i64 0, .slice none 0 0, .int .i64 0, .int .i64 0] 32)
    rwa [show (w.alloc (.cells #[.slice sl rs.length cap, .slice sl2 ps.length cap2] 26)).heap.size = w.heap.size + 1 by simp] at this
  have B0 := Lib.hid (bA (bA0 w (.cells #[.slice sl rs.length cap, .slice sl2 ps.length cap2] 26)) (.cells #[.int .i64 0, .slice none 0 0, .int .i64 0, .int .i64 0] 32))
  unfold maxLen at hl
  by_cases h4 : 400 < ids.length
  · have h4' : (400 : Int) < (ids.length : Int) := by omega
    obtain ⟨pe1, pe2, pe3, pe4⟩ := pf_no (bd := bd) top (fun h : PfOk rs ps ids bd => by have := h.1.1; omega)
    rw [if_pos h4] at pe4
    rw [pe1, pe2, pe3, pe4]
    clear pe1 pe2 pe3 pe4 hz hp hw hi E1 HT
    generalize rs.length = rn at *
    generalize ps.length = pn at *
    generalize ids.length = n at *
    clear B0 X0
    go_enter Try.func6, Try.ntmps6
    go_wp2
    refine bodyPost_ret (v := PV 0 (.slice none 0 0) 0 2) (by simp [results, Try.results6, go_sem]) rfl ⟨_, rfl, ⟨rfl, .inl ⟨rfl, rfl⟩⟩, bA (bA0 _ _) _⟩
  have h4' : ¬ (400 : Int) < (ids.length : Int) := by omega
  by_cases hok : PfOk rs ps ids bd
  · have hir := hok.1
    obtain ⟨pe1, pe2, pe3, pe4⟩ := pf_yes top hok
    rw [pe1, pe2, pe3, pe4]
    rw [B_yes hir] at E1
    have hbd0 : ¬ bd < 0 := by have := hok.2.1; omega
    have hbd1 : ¬ (2000 : Int) < bd := by have := hok.2.2; omega
    have hbdn : ((bd.toNat : Nat) : Int) = bd := by omega
    have E2 := Lib.hid (fun W (hW : Below w.heap.size w W) => ch_any sl cap sl2 cap2 sl3 cap3 rs ps top ids W hir.1 (hz.below hW) hir.2.1 (hi.below hW))
    have E3 := Lib.hid (fun W (hW : Below w.heap.size w W) => bi_any sl rs.length cap sl2 cap2 ps W (by have := hir.2.1.1.2.2; omega) (hp.below hW) hw)
    have E4 : Hid (∀ bc rows kb W, rows.map (fun r => r.2) = ids.map (chF rs top) → Rws W (some ⟨bc, 0, none⟩) rows → FitsAt W kb ps → Calls Try.prog 23 #[.slice (some ⟨bc, 0, none⟩) ids.length ids.length, FV kb, .int .i64 bd] W fun e w' => ∃ pv, e = .returned (.agg #[.int .i64 (pfS rs ps top ids bd).vd, pv, .int .i64 ((pfS rs ps top ids bd).st : Nat), .int .i64 0]) ∧ w'.ownsRow W.heap.size 62 2 pv (pfS rs ps top ids bd).pl.length (enCells (pfS rs ps top ids bd).pl) ∧ Below W.heap.size W w') := fun bc rows kb W hm rw' ft => by
      have hll : rows.length = ids.length := by have := congrArg List.length hm; simpa using this
      have := tc_any bc rows kb ps bd.toNat W (by rw [hll]; exact hir.1) (by omega) rw' ft hw (fun r hr => ⟨ch_96_x top hir.2.1 hm r hr, ch_small_x top hir hm r hr⟩)
      rw [hll, hm, hbdn] at this
      exact this
    clear hok hir hz hp hw hi pe1 pe2 pe3 pe4 hbdn
    generalize pfS rs ps top ids bd = R at *
    generalize hST : ((R.st : Nat) : Int) = stv at *
    generalize hVD : R.vd = vdv at *
    clear hST hVD
    generalize rs.length = rn at *
    generalize ps.length = pn at *
    generalize ids.length = n at *
    generalize hPL : R.pl.length = pln at *
    clear hPL
    generalize enCells R.pl = plc at *
    clear R
    go_enter Try.func6, Try.ntmps6
    go_wp2_with fail
    generalize (w.alloc (.cells #[.slice sl rn cap, .slice sl2 pn cap2] 26)).alloc (.cells #[.int .i64 0, .slice none 0 0, .int .i64 0, .int .i64 0] 32) = w0 at *
    refine (E1.out _ B0.out).mono ?_
    rintro e w1 ⟨rfl, b1⟩
    have D1 := Lib.hid (bT B0.out b1)
    have HT1 := Lib.hid (HT.out.below b1)
    have X1 : Hid (BoxP w1 (w.heap.size + 1)) := (b1.block _ X0.out.facts.1).trans X0.out
    have hs1 := X1.out.facts.1
    have KB : Hid (∀ W, Below (w.heap.size + 1) w1 W → w.heap.size < W.heap.size ∧ W.cell? ⟨w.heap.size, 0, none⟩ = some (.slice sl rn cap) ∧ W.cell? ⟨w.heap.size, 1, none⟩ = some (.slice sl2 pn cap2)) := fun W hW => by
      have ht : TabAt W w.heap.size sl rn cap sl2 pn cap2 := (hW.block w.heap.size (by omega)).trans HT1.out
      obtain ⟨k0, k1⟩ := ht.cells
      exact ⟨ht.lt, k0, k1⟩
    clear b1 E1 HT X0 B0
    go_wp2_with fail
    refine wp_region_held_drew (S := fun W => w.heap.size < W.heap.size ∧ W.cell? ⟨w.heap.size, 0, none⟩ = some (.slice sl rn cap) ∧ W.cell? ⟨w.heap.size, 1, none⟩ = some (.slice sl2 pn cap2)) (by kernel_rfl) ?_ (fun hHeld => ?_)
    · exact KB.out _ ((Below.refl w1.heap.size w1).drew.mono (by omega))
    refine wpAnyH_take (i := 0) (oi := _) (v := ?_) rfl (by kernel_rfl) (by kernel_rfl) (by kernel_rfl) (fun _ _ _ h => h) (Or.inl ⟨by rfl, ?_⟩) (by assumption) ?_
    rotate_left
    · first | (intro w hSw; (try dsimp only at hSw); go_simp; done) | (intro w hSw; (try dsimp only at hSw); go_simp; with_reducible rfl)
    try simp only [Act.put, List.setIfInBounds_toArray, List.set_cons_zero, List.set_cons_succ, List.getElem_toArray, List.getElem_cons_zero]
    refine wpAnyH_take (i := 1) (oi := _) (v := ?_) rfl (by kernel_rfl) (by kernel_rfl) (by kernel_rfl) (fun _ _ _ h => h) (Or.inl ⟨by rfl, ?_⟩) (by assumption) ?_
    rotate_left
    · first | (intro w hSw; (try dsimp only at hSw); go_simp; done) | (intro w hSw; (try dsimp only at hSw); go_simp; with_reducible rfl)
    try simp only [Act.put, List.setIfInBounds_toArray, List.set_cons_zero, List.set_cons_succ, List.getElem_toArray, List.getElem_cons_succ, List.getElem_cons_zero]
    refine wpAnyH_take (i := 2) (oi := _) (v := ?_) rfl (by kernel_rfl) (by kernel_rfl) (by kernel_rfl) (fun _ _ _ h => h) (Or.inl ⟨by rfl, ?_⟩) (by assumption) ?_
    rotate_left
    · first | (intro w hSw; (try dsimp only at hSw); go_simp; done) | (intro w hSw; (try dsimp only at hSw); go_simp; with_reducible rfl)
    try simp only [Act.put, List.setIfInBounds_toArray, List.set_cons_zero, List.set_cons_succ, List.getElem_toArray, List.getElem_cons_succ, List.getElem_cons_zero]
    refine wpAnyH_take (i := 4) (oi := _) (v := ?_) rfl (by kernel_rfl) (by kernel_rfl) (by kernel_rfl) (fun _ _ _ h => h) (Or.inl ⟨by rfl, ?_⟩) (by assumption) ?_
    rotate_left
    · first | (intro w hSw; (try dsimp only at hSw); go_simp; done) | (intro w hSw; (try dsimp only at hSw); go_simp; with_reducible rfl)
    try simp only [Act.put, List.setIfInBounds_toArray, List.set_cons_zero, List.set_cons_succ, List.getElem_toArray, List.getElem_cons_succ, List.getElem_cons_zero]
    refine wpAnyH_take (i := 6) (oi := _) (v := ?_) rfl (by kernel_rfl) (by kernel_rfl) (by kernel_rfl) (fun _ _ _ h => h) (Or.inl ⟨by rfl, ?_⟩) (by assumption) ?_
    rotate_left
    · first | (intro w hSw; (try dsimp only at hSw); go_simp; done) | (intro w hSw; (try dsimp only at hSw); go_simp; with_reducible rfl)
    try simp only [Act.put, List.setIfInBounds_toArray, List.set_cons_zero, List.set_cons_succ, List.getElem_toArray, List.getElem_cons_succ, List.getElem_cons_zero]
    refine wpAnyH_ready (rs := [3]) (by kernel_rfl) (by simp) ?_
    refine AllReadyH.cons rfl (fun K hK => ?_) AllReadyH.nil
    go_simp
    go_wp2_with (go_at_call 24; refine (E2.out _ D1.out.drew).mono ?_; rintro e w2 ⟨bc, rows, rfl, hm, rw2, b2⟩)
    have F2 : Hid (Below w1.heap.size w1 w2) := bT ((Below.refl w1.heap.size w1).drew) b2
    have RM := Lib.hid hm
    have RW := Lib.hid rw2
    have D2 := Lib.hid (bT D1.out F2.out)
    clear b2 hm rw2
    refine hK.out _ _ ?_ (fun hHeld => ?_)
    · exact KB.out _ (F2.out.mono (by omega))
    clear hK K
    refine wpAnyH_ready (rs := [5]) (by kernel_rfl) (by simp) ?_
    refine AllReadyH.cons rfl (fun K hK => ?_) AllReadyH.nil
    go_simp
    go_wp2_with (go_at_call 25; refine (E3.out _ D2.out).mono ?_; rintro e w3 ⟨kb, rfl, ft3, b3⟩)
    have F3 : Hid (Below w1.heap.size w1 w3) := bT F2.out b3
    have T4 := Lib.hid (E4.out bc rows kb w3 RM.out (RW.out.below b3) ft3)
    clear b3 ft3
    refine hK.out _ _ ?_ (fun hHeld => ?_)
    · exact KB.out _ (F3.out.mono (by omega))
    clear hK K
    refine wpAnyH_ready (rs := [7]) (by kernel_rfl) (by simp) ?_
    refine AllReadyH.cons rfl (fun K hK => ?_) AllReadyH.nil
    go_simp
    go_wp2_with (go_at_call 23; refine T4.out.mono ?_; rintro e w4 ⟨pv, rfl, ow4, b4⟩)
    have F4 : Hid (Below w1.heap.size w1 w4) := bT F3.out b4
    have O4 := Lib.hid ow4
    have hs4 := F3.out.size
    have hs5 := F4.out.size
    obtain ⟨psl, pcap, e9⟩ := own_v ow4
    subst e9
    obtain ⟨rl, r0, r1, r2, r3, f0, f1, f2, f3⟩ := BoxP.facts (show BoxP w4 (w.heap.size + 1) from (F4.out.block _ X1.out.facts.1).trans X1.out)
    clear b4 ow4
    refine hK.out _ _ ?_ (fun hHeld => ?_)
    · exact KB.out _ (F4.out.mono (by omega))
    clear hK K
    refine wpAnyH_ready (rs := [8]) (by kernel_rfl) (by simp) ?_
    refine AllReadyH.cons rfl (fun K hK => ?_) AllReadyH.nil
    go_simp
    refine hK.out _ _ ?_ (fun hHeld => ?_)
    · exact KB.out _ (set4_below (F4.out.mono (show w.heap.size + 1 ≤ w1.heap.size by omega)) (Nat.le_refl _) _ _ _ _)
    clear hK K
    refine wpAnyH_done (by kernel_rfl) ?_ _
    have BF := Lib.hid (set4_below (bT D1.out F4.out) (show w.heap.size ≤ w.heap.size + 1 by omega) (.int .i64 vdv) (.slice psl pln pcap) (.int .i64 stv) (.int .i64 0))
    have OF : Hid ((set4 w4 (w.heap.size + 1) (.int .i64 vdv) (.slice psl pln pcap) (.int .i64 stv) (.int .i64 0)).ownsRow w.heap.size 62 2 (.slice psl pln pcap) pln plc) := own_mono (own_set4 O4.out (fun e => by have := (O4.out.lt _ e).1; omega) _ _ _ _) (by have := D1.out.size; omega)
    unfold set4 at BF OF
    go_wp2
    refine bodyPost_ret (v := PV vdv (.slice psl pln pcap) stv 0) (by simp [results, Try.results6, go_sem, r0, r1, r2, r3]) rfl ⟨_, rfl, OF.out, BF.out⟩
  · obtain ⟨pe1, pe2, pe3, pe4⟩ := pf_no top hok
    rw [if_neg h4] at pe4
    rw [pe1, pe2, pe3, pe4]
    have HOK : Hid (B (IdsR rs ps ids) = false ∨ (B (IdsR rs ps ids) = true ∧ (bd < 0 ∨ (¬ bd < 0 ∧ (2000 : Int) < bd)))) := by
      by_cases h : IdsR rs ps ids
      · refine .inr ⟨B_yes h, ?_⟩
        by_cases h0 : bd < 0
        · exact .inl h0
        · by_cases h1 : (2000 : Int) < bd
          · exact .inr ⟨h0, h1⟩
          · exact absurd ⟨h, by omega, by omega⟩ hok
      · exact .inl (B_no h)
    clear pe1 pe2 pe3 pe4 hz hp hw hi hok HT
    generalize B (IdsR rs ps ids) = bi at *
    generalize rs.length = rn at *
    generalize ps.length = pn at *
    generalize ids.length = n at *
    have FIN : Hid (∀ w1, Below ((w.alloc (.cells #[.slice sl rn cap, .slice sl2 pn cap2] 26)).alloc (.cells #[.int .i64 0, .slice none 0 0, .int .i64 0, .int .i64 0] 32)).heap.size ((w.alloc (.cells #[.slice sl rn cap, .slice sl2 pn cap2] 26)).alloc (.cells #[.int .i64 0, .slice none 0 0, .int .i64 0, .int .i64 0] 32)) w1 → BoxP w1 (w.heap.size + 1) ∧ Below w.heap.size w (set4 w1 (w.heap.size + 1) (.int .i64 0) (.slice none 0 0) (.int .i64 0) (.int .i64 1))) := fun w1 b1 => ⟨(b1.block _ X0.out.facts.1).trans X0.out, set4_below (bT B0.out b1) (by omega) _ _ _ _⟩
    rcases HOK.out with rfl | ⟨rfl, hb | ⟨hb, hb2⟩⟩
    all_goals
      go_enter Try.func6, Try.ntmps6
      go_wp2_with fail
      generalize (w.alloc (.cells #[.slice sl rn cap, .slice sl2 pn cap2] 26)).alloc (.cells #[.int .i64 0, .slice none 0 0, .int .i64 0, .int .i64 0] 32) = w0 at *
      refine (E1.out _ B0.out).mono ?_
      rintro e w1 ⟨rfl, b1⟩
      obtain ⟨x1, p1⟩ := FIN.out w1 b1
      have P := Lib.hid p1
      unfold set4 at P
      obtain ⟨rl, r0, r1, r2, r3, f0, f1, f2, f3⟩ := BoxP.facts x1
      clear b1 p1 x1
      go_wp2
      refine bodyPost_ret (v := PV 0 (.slice none 0 0) 0 1) (by simp [results, Try.results6, go_sem, r0, r1, r2, r3]) rfl ⟨_, rfl, ⟨rfl, .inl ⟨rfl, rfl⟩⟩, P.out⟩
end Go.Proofs.Ytgfclllfkpblnaa
