/-
  A LINE BEHIND A TABLE, AS THE MODEL READS IT: spec.l04Line.
-/
import Derived.Test.YtdndhhkpbcpalaaDoorKk
namespace Go.Proofs.YtdndhhkpbcpalaaDoor
open Go.RowKit
set_option linter.unusedVariables false
set_option linter.unusedSimpArgs false

set_option maxRecDepth 100000 in
set_option maxHeartbeats 16000000 in
/-- spec.l04Line of a pair. -/
theorem sl_bes (C : Nat) (v1 v2 : Value) (rs : List LSt) (ps : List LPr) (s : ByteArray) (w : World) (h : OwT w C v1 v2 rs ps) (hB : C ≤ w.heap.size) (hr : rs.length ≤ 100000) (hp : ps.length ≤ 100000) (hs : s.size ≤ 20000) (hcA : (splitL 32 s.data.toList).headD [] = besW) (hcz : (numsM ((splitL 32 s.data.toList).drop 1)).length = 2) :
    Calls Tryd.prog 10 #[.agg #[v1, v2], .string s] w fun e w' => LinePost C v1 v2 w (lineP (bare rs) ps s.data.toList) e w' := by
  obtain ⟨sl1, cap1, rfl, -⟩ := own_st h
  obtain ⟨sl2, cap2, rfl, -⟩ := own_pr h
  obtain ⟨i0, hi0, hz0, hz1, hz2⟩ := info_parts infoZ
  obtain ⟨wd, ps', hsp⟩ := split_ne 32 s.data.toList
  have HCA : Hid (wd = besW) := by
    rw [hsp] at hcA
    exact hcA
  have HCZ : Hid ((numsM ps').length = 2) := by
    rw [hsp] at hcz
    exact hcz
  clear hcA hcz
  have HL : Hid (lineP (bare rs) ps s.data.toList = lineM (bare rs) ps s.data.toList) := (line_same _ _ _).symm
  have hlen : (wd :: ps').length ≤ 20001 := by
    have := (split_len 32 s.data.toList).2
    rw [hsp] at this
    have e : s.data.toList.length = s.size := rfl
    omega
  have hsmall : Hid (∀ x ∈ wd :: ps', x.length ≤ 1000000) := by
    intro x hx
    rw [← hsp] at hx
    have := split_small 32 s.data.toList x hx
    have e : s.data.toList.length = s.size := rfl
    omega
  have hlp : ps'.length ≤ 20000 := by simp at hlen; omega
  have HSP := Lib.hid hsp
  have H := Lib.hid h
  clear h
  have B0 := Lib.hid (bA (bA0 w (.cells #[.slice sl1 rs.length cap1, .slice sl2 ps.length cap2] 25)) (.cells #[.slice none 0 0, .slice none 0 0] 25))
  have N0 := Lib.hid (new_at w (.cells #[.slice sl1 rs.length cap1, .slice sl2 ps.length cap2] 25))
  have M1 : Hid (((w.alloc (.cells #[.slice sl1 rs.length cap1, .slice sl2 ps.length cap2] 25)).alloc (.cells #[.slice none 0 0, .slice none 0 0] 25)).heap[w.heap.size + 1]? = some (.cells #[.slice none 0 0, .slice none 0 0] 25)) := by
    have := new_at (w.alloc (.cells #[.slice sl1 rs.length cap1, .slice sl2 ps.length cap2] 25)) (.cells #[.slice none 0 0, .slice none 0 0] 25)
    have hs1 : (w.alloc (.cells #[.slice sl1 rs.length cap1, .slice sl2 ps.length cap2] 25)).heap.size = w.heap.size + 1 := by simp
    rw [hs1] at this
    exact this
  have M0 : Hid (((w.alloc (.cells #[.slice sl1 rs.length cap1, .slice sl2 ps.length cap2] 25)).alloc (.cells #[.slice none 0 0, .slice none 0 0] 25)).heap[w.heap.size]? = some (.cells #[.slice sl1 rs.length cap1, .slice sl2 ps.length cap2] 25)) := ((bA0 (w.alloc (.cells #[.slice sl1 rs.length cap1, .slice sl2 ps.length cap2] 25)) (.cells #[.slice none 0 0, .slice none 0 0] 25)).block w.heap.size (by simp)).trans N0.out
  have hsz : ((w.alloc (.cells #[.slice sl1 rs.length cap1, .slice sl2 ps.length cap2] 25)).alloc (.cells #[.slice none 0 0, .slice none 0 0] 25)).heap.size = w.heap.size + 1 + 1 := by simp
  have BW := Lib.hid (spl_any s 32 ((w.alloc (.cells #[.slice sl1 rs.length cap1, .slice sl2 ps.length cap2] 25)).alloc (.cells #[.slice none 0 0, .slice none 0 0] 25)) (by omega))
  rw [hsp] at BW
  go_enter Tryd.func10, Tryd.ntmps10
  go_wp2_with fail
  refine BW.out.mono ?_
  rintro e w1 ⟨v6, rfl, ow6, b1⟩
  obtain ⟨g, cap, rfl, hcap, gl, gc⟩ : ∃ g cap, v6 = .slice (some ⟨g, 0, none⟩) (ps'.length + 1) cap ∧ ps'.length + 1 ≤ cap ∧ g < w1.heap.size ∧ ∀ i x, (wd :: ps')[i]? = some x → w1.cell? ⟨g, i, none⟩ = some (strV x) := by
    rcases ow6.2 with ⟨_, h0⟩ | ⟨g, cap, cur, e, _, hgb, hl, _⟩
    · simp at h0
    · subst e
      refine ⟨g, cap, rfl, by simpa using hl, (Array.getElem?_eq_some_iff.1 hgb).1, fun i x hx => ?_⟩
      have hi := (List.getElem?_eq_some_iff.1 hx).1
      rw [ow6.cellAt i (by omega)]
      unfold strs
      rw [List.getElem?_map, hx]
      rfl
  have B1 := Lib.hid (bT B0.out b1)
  have M01 := Lib.hid ((b1.block w.heap.size (by omega)).trans M0.out)
  have M11 := Lib.hid ((b1.block (w.heap.size + 1) (by omega)).trans M1.out)
  have H1 := Lib.hid ((H.out.below B0.out).below b1)
  have HS := b1.size
  rw [hsz] at HS
  have GC := Lib.hid gc
  clear ow6 b1 BW gc N0 M0 M1 hsz hsp B0 hlen
  have HS' : w.heap.size + 1 < w1.heap.size := by omega
  have HS0 : w.heap.size < w1.heap.size := by omega
  clear HS
  generalize hW0 : (w.alloc (.cells #[.slice sl1 rs.length cap1, .slice sl2 ps.length cap2] 25)).alloc (.cells #[.slice none 0 0, .slice none 0 0] 25) = w0 at *
  clear hW0
  have O2 := Lib.hid (own_lit0 w1 2 1)
  have B2 := Lib.hid (bA0 w1 (.cells #[] 2))
  go_wp2_with fail
  rename_i KT hKT
  have TAIL : ∀ (z : List Int) (nv : Value) (wr : World) (x8 : Int) (u9 u10 u17 u18 u19 u20 u21 u22 u23 u24 u25 u26 u27 u28 u29 u30 u31 u32 u33 u34 u35 u36 u37 u38 : Value), z = numsM ps' → wr.ownsRow w1.heap.size 2 1 nv z.length (valsZ z) → Below w1.heap.size w1 wr → KT { tmps := #[.agg #[.slice sl1 rs.length cap1, .slice sl2 ps.length cap2], .string s, .pointer (some ⟨w.heap.size, 0, none⟩), undef, .pointer (some ⟨w.heap.size + 1, 0, none⟩), .bool false, .slice (some ⟨g, 0, none⟩) (ps'.length + 1) cap, nv, .int .i64 x8, u9, u10, undef, undef, undef, .string s, .slice (some ⟨g, 0, none⟩) (ps'.length + 1) cap, .slice (some ⟨w1.heap.size, 0, none⟩) 0 0, u17, u18, u19, u20, u21, u22, u23, u24, u25, u26, u27, u28, u29, u30, u31, u32, u33, u34, u35, u36, u37, u38, undef, undef, undef, undef, undef, undef, undef, undef, undef, undef, undef, undef, undef, undef, undef, undef, undef, undef, undef, undef, undef, undef, undef, undef, undef, undef, undef, undef, undef, undef, undef, undef, undef, undef, undef, undef, undef, undef, undef, undef, undef, undef, undef, undef, undef, undef, undef, undef, undef, undef, undef, undef, undef, undef, undef, undef, undef, undef, undef, undef, undef, undef, undef, undef, undef, undef, undef, undef, undef, undef, undef, undef, undef, undef, undef, undef, undef, undef, undef, undef, undef, undef, undef, undef, undef, undef, undef], defers := [] } wr := by
    intro z nv wr x8 u9 u10 u17 u18 u19 u20 u21 u22 u23 u24 u25 u26 u27 u28 u29 u30 u31 u32 u33 u34 u35 u36 u37 u38 hz ho hb
    refine hKT _ _ ?_
    clear hKT
    obtain ⟨sl7, m7, c7, rfl⟩ := IsSl.own ho
    have hm7 : m7 = z.length := by
      rcases ho.2 with ⟨e, h0⟩ | ⟨g', cap', cur, e, _⟩
      · injection e with _ e2; omega
      · injection e with _ e2
    subst hm7
    have HM : Hid (lineP (bare rs) ps s.data.toList = if wd = staW ∧ 2 ≤ z.length ∧ ps = [] then
        (if B (staW ++ numsT z = s.data.toList ∧ TabB (bare rs ++ [(z.getD 0 0, z.getD 1 0, z.drop 2)]) ps) = true then some (bare rs ++ [(z.getD 0 0, z.getD 1 0, z.drop 2)], ps) else none)
      else if (wd = samW ∨ wd = besW) ∧ z.length = 2 then
        (if B (wd ++ numsT z = s.data.toList ∧ TabB (bare rs) (ps ++ [(z.getD 0 0, z.getD 1 0, kindW wd)])) = true then some (bare rs, ps ++ [(z.getD 0 0, z.getD 1 0, kindW wd)]) else none)
      else none) := by
      show _ = _
      rw [HL.out, hz]
      unfold lineM numsM
      rw [HSP.out]
      rfl
    have hz2 : z.length = 2 := by rw [hz]; exact HCZ.out
    have hzl : z.length ≤ 19 := by rw [hz]; simp [numsM]; omega
    have hzb : Hid (∀ a ∈ z, -1000000000000000 ≤ a ∧ a ≤ 1000000000000000) := fun a ha => by
      rw [hz] at ha
      obtain ⟨x, _, rfl⟩ := List.mem_map.1 ha
      have := numV_bd x
      omega
    have BN := Lib.hid (bT B1.out hb)
    have M0r := Lib.hid ((hb.block w.heap.size (by omega)).trans M01.out)
    have M1r := Lib.hid ((hb.block (w.heap.size + 1) (by omega)).trans M11.out)
    have OT := Lib.hid (H1.out.below hb)
    have c0 := cellsAt M0r.out
    have c1 := cellsAt M1r.out
    have q0 := (hb.cell gl).trans (GC.out 0 wd rfl)
    unfold strV at q0
    have HO := Lib.hid ho
    have M1a := Lib.hid (((bA0 wr (.cells #[.slice sl1 rs.length cap1, .slice sl2 ps.length cap2] 25)).block (w.heap.size + 1) (Array.getElem?_eq_some_iff.1 M1r.out).1).trans M1r.out)
    have M0a := Lib.hid (((bA0 wr (.cells #[.slice sl1 rs.length cap1, .slice sl2 ps.length cap2] 25)).block w.heap.size (Array.getElem?_eq_some_iff.1 M0r.out).1).trans M0r.out)
    have c0a := cellsAt M0a.out
    have c1a := cellsAt M1a.out
    have hg := Nat.lt_of_lt_of_le gl hb.size
    have q0a := ((bA0 wr (.cells #[.slice sl1 rs.length cap1, .slice sl2 ps.length cap2] 25)).cell hg).trans q0
    have hsr : w.heap.size + 1 < wr.heap.size := (Array.getElem?_eq_some_iff.1 M1r.out).1
    clear ho hb hz GC gl O2 B2 M01 M11 H1 HSP hsmall hlp HS' HS0
    have hE := HCA.out
    subst hE
    have hA : ¬ besW = staW := by decide
    have q0' : wr.cell? ⟨g, 0, none⟩ = some (.string ⟨#[98, 101, 115, 105, 100, 101]⟩) := q0
    have q0b : (wr.alloc (.cells #[.slice sl1 rs.length cap1, .slice sl2 ps.length cap2] 25)).cell? ⟨g, 0, none⟩ = some (.string ⟨#[98, 101, 115, 105, 100, 101]⟩) := q0a
    clear q0 q0a HCA
    obtain ⟨a, b, hzz⟩ : ∃ a b, z = [a, b] := by
      match z, hz2 with
      | [a, b], _ => exact ⟨a, b, rfl⟩
    have HMs := Lib.hid (HM.out.trans ((if_neg (fun hh => hA hh.1)).trans (if_pos ⟨by first | exact .inl rfl | exact .inr rfl, hz2⟩)))
    obtain ⟨iS, hiS, hzS0, hzS1, hzS2⟩ := info_parts infoPr
    have HZZ := Lib.hid hzz
    have hO := HO.out
    rw [hz2, hzz] at hO
    obtain ⟨g7, hg7, hcl⟩ : ∃ g7, sl7 = some ⟨g7, 0, none⟩ ∧ 2 ≤ c7 := by
      rcases hO.2 with ⟨_, h0⟩ | ⟨g', cap', cur, e, _, _, hl, _⟩
      · omega
      · exact ⟨g', (Value.slice.inj e).1, by rw [(Value.slice.inj e).2.2]; exact hl⟩
    subst hg7
    have hg7l := (World.ownsRow.lt hO g7 rfl).2
    have z0 := hO.cellAt 0 (by omega)
    have z1 := hO.cellAt 1 (by omega)
    simp [valsZ] at z0 z1
    have hab : Hid ((-1000000000000000 ≤ a ∧ a ≤ 1000000000000000) ∧ (-1000000000000000 ≤ b ∧ b ≤ 1000000000000000)) := by
      have hq := hzb.out
      rw [hzz] at hq
      exact ⟨hq a (by simp), hq b (by simp)⟩
    have hkw : kindW besW = 2 := by decide
    have e3 : (z.getD 0 0, z.getD 1 0, kindW besW) = (a, b, 2) := by rw [hzz, hkw]; rfl
    have HYes : Hid (besW ++ numsT z = s.data.toList → B (TabR rs (ps ++ [(a, b, 2)])) = true → (if B (besW ++ numsT z = s.data.toList ∧ TabB (bare rs) (ps ++ [(z.getD 0 0, z.getD 1 0, kindW besW)])) = true then some (bare rs, ps ++ [(z.getD 0 0, z.getD 1 0, kindW besW)]) else none) = some (bare rs, ps ++ [(a, b, 2)])) := fun h1 h2 => by
      have h3 := B_true h2
      rw [← tab_bare] at h3
      rw [if_pos (B_yes ⟨h1, by rw [e3]; exact h3⟩), e3]
    have HNot : Hid (¬ (besW ++ numsT z = s.data.toList ∧ TabR rs (ps ++ [(a, b, 2)])) → (if B (besW ++ numsT z = s.data.toList ∧ TabB (bare rs) (ps ++ [(z.getD 0 0, z.getD 1 0, kindW besW)])) = true then some (bare rs, ps ++ [(z.getD 0 0, z.getD 1 0, kindW besW)]) else none) = none) := fun h1 => by
      rw [if_neg]
      intro h2
      have h3 := B_true h2
      rw [e3] at h3
      exact h1 ⟨h3.1, by rw [← tab_bare]; exact h3.2⟩
    have hC1' : C ≤ wr.heap.size := Nat.le_trans hB BN.out.size
    rw [hz2]
    clear hO hzb HO hzz e3 hkw
    go_wp2_with fail
    have bW0 := bA0 wr (.cells #[.slice sl1 rs.length cap1, .slice sl2 ps.length cap2] 25)
    have MO0 := Lib.hid (new_at wr (.cells #[.slice sl1 rs.length cap1, .slice sl2 ps.length cap2] 25))
    have hsz0 : (wr.alloc (.cells #[.slice sl1 rs.length cap1, .slice sl2 ps.length cap2] 25)).heap.size = wr.heap.size + 1 := by simp
    have BN0 := Lib.hid (bT BN.out bW0)
    have OT0 := Lib.hid (OT.out.below bW0)
    have QB := Lib.hid q0b
    have KB : Hid (∀ W, Below (wr.alloc (.cells #[.slice sl1 rs.length cap1, .slice sl2 ps.length cap2] 25)).heap.size (wr.alloc (.cells #[.slice sl1 rs.length cap1, .slice sl2 ps.length cap2] 25)) W → W.cell? ⟨g7, 0, none⟩ = some (.int .i64 a) ∧ W.cell? ⟨g7, 1, none⟩ = some (.int .i64 b)) := fun W hW => ⟨((bT bW0 hW).cell hg7l).trans z0, ((bT bW0 hW).cell hg7l).trans z1⟩
    have hg0 : g < (wr.alloc (.cells #[.slice sl1 rs.length cap1, .slice sl2 ps.length cap2] 25)).heap.size := by omega
    generalize wr.alloc (.cells #[.slice sl1 rs.length cap1, .slice sl2 ps.length cap2] 25) = W0 at *
    clear c0a c1a q0b bW0
    refine wp_region_held_drew (S := fun W => W.cell? ⟨g7, 0, none⟩ = some (.int .i64 a) ∧ W.cell? ⟨g7, 1, none⟩ = some (.int .i64 b)) (by kernel_rfl) ?_ (fun hHeld => ?_)
    · exact KB.out _ (Below.refl _ _).drew
    refine wpAnyH_take (i := 0) (oi := _) (v := ?_) rfl (by kernel_rfl) (by kernel_rfl) (by kernel_rfl) (fun _ _ _ h => h) (Or.inl ⟨by rfl, ?_⟩) (by assumption) ?_
    rotate_left
    · first | (intro w hSw; (try dsimp only at hSw); go_simp; done) | (intro w hSw; (try dsimp only at hSw); go_simp; with_reducible rfl)
    try simp only [Act.put, List.setIfInBounds_toArray, List.set_cons_zero, List.set_cons_succ, List.getElem_toArray, List.getElem_cons_zero]
    refine wpAnyH_take (i := 1) (oi := _) (v := ?_) rfl (by kernel_rfl) (by kernel_rfl) (by kernel_rfl) (fun _ _ _ h => h) (Or.inl ⟨by rfl, ?_⟩) (by assumption) ?_
    rotate_left
    · first | (intro w hSw; (try dsimp only at hSw); go_simp; done) | (intro w hSw; (try dsimp only at hSw); go_simp; with_reducible rfl)
    try simp only [Act.put, List.setIfInBounds_toArray, List.set_cons_zero, List.set_cons_succ, List.getElem_toArray, List.getElem_cons_succ, List.getElem_cons_zero]
    refine wpAnyH_take (i := 2) (oi := _) (v := ?_) rfl (by kernel_rfl) (by kernel_rfl) (by kernel_rfl) (fun _ _ _ h => h) (Or.inl ⟨by rfl, ?_⟩) (by assumption) ?_
    rotate_left
    · first | (intro w hSw; (try dsimp only at hSw); go_simp; done) | (intro w hSw; (try dsimp only at hSw); go_simp; with_reducible rfl)
    try simp only [Act.put, List.setIfInBounds_toArray, List.set_cons_zero, List.set_cons_succ, List.getElem_toArray, List.getElem_cons_succ, List.getElem_cons_zero]
    refine wpAnyH_take (i := 3) (oi := _) (v := ?_) rfl (by kernel_rfl) (by kernel_rfl) (by kernel_rfl) (fun _ _ _ h => h) (Or.inl ⟨by rfl, ?_⟩) (by assumption) ?_
    rotate_left
    · first | (intro w hSw; (try dsimp only at hSw); go_simp; done) | (intro w hSw; (try dsimp only at hSw); go_simp; with_reducible rfl)
    try simp only [Act.put, List.setIfInBounds_toArray, List.set_cons_zero, List.set_cons_succ, List.getElem_toArray, List.getElem_cons_succ, List.getElem_cons_zero]
    refine wpAnyH_take (i := 4) (oi := _) (v := ?_) rfl (by kernel_rfl) (by kernel_rfl) (by kernel_rfl) (fun _ _ _ h => h) (Or.inl ⟨by rfl, ?_⟩) (by assumption) ?_
    rotate_left
    · first | (intro w hSw; (try dsimp only at hSw); go_simp; done) | (intro w hSw; (try dsimp only at hSw); go_simp; with_reducible rfl)
    try simp only [Act.put, List.setIfInBounds_toArray, List.set_cons_zero, List.set_cons_succ, List.getElem_toArray, List.getElem_cons_succ, List.getElem_cons_zero]
    refine wpAnyH_take (i := 5) (oi := _) (v := ?_) rfl (by kernel_rfl) (by kernel_rfl) (by kernel_rfl) (fun _ _ _ h => h) (Or.inl ⟨by rfl, ?_⟩) (by assumption) ?_
    rotate_left
    · first | (intro w hSw; (try dsimp only at hSw); go_simp; done) | (intro w hSw; (try dsimp only at hSw); go_simp; with_reducible rfl)
    try simp only [Act.put, List.setIfInBounds_toArray, List.set_cons_zero, List.set_cons_succ, List.getElem_toArray, List.getElem_cons_succ, List.getElem_cons_zero]
    refine wpAnyH_take (i := 6) (oi := _) (v := ?_) rfl (by kernel_rfl) (by kernel_rfl) (by kernel_rfl) (fun _ _ _ h => h) (Or.inl ⟨by rfl, ?_⟩) (by assumption) ?_
    rotate_left
    · first | (intro w hSw; (try dsimp only at hSw); go_simp; done) | (intro w hSw; (try dsimp only at hSw); go_simp; with_reducible rfl)
    try simp only [Act.put, List.setIfInBounds_toArray, List.set_cons_zero, List.set_cons_succ, List.getElem_toArray, List.getElem_cons_succ, List.getElem_cons_zero]
    refine wpAnyH_ready (rs := [7]) (by kernel_rfl) (by simp) ?_
    refine AllReadyH.cons rfl (fun K hK => ?_) AllReadyH.nil
    go_simp
    go_wp2
    refine hK.out _ _ ?_ (fun hHeld => ?_)
    · exact KB.out _ (bA (Below.refl _ _).drew _)
    clear hK K
    refine wpAnyH_ready (rs := [8]) (by kernel_rfl) (by simp) ?_
    refine AllReadyH.cons rfl (fun K hK => ?_) AllReadyH.nil
    go_simp
    go_wp2
    refine hK.out _ _ ?_ (fun hHeld => ?_)
    · exact KB.out _ (bA (Below.refl _ _).drew _)
    clear hK K
    refine wpAnyH_done (by kernel_rfl) ?_ _
    rename_i hh1 hh2
    clear hh1 hh2
    have bW := (bA0 W0 (.cells #[.int .i64 a, .int .i64 b, .int .i64 1] 47)).drew
    have MSx : Hid (((W0.alloc (.cells #[.int .i64 a, .int .i64 b, .int .i64 1] 47)).drew).heap[wr.heap.size + 1]? = some (.cells #[.int .i64 a, .int .i64 b, .int .i64 1] 47)) := by
      have := new_at W0 (.cells #[.int .i64 a, .int .i64 b, .int .i64 1] 47)
      rw [hsz0] at this
      exact this
    have hsx : ((W0.alloc (.cells #[.int .i64 a, .int .i64 b, .int .i64 1] 47)).drew).heap.size = wr.heap.size + 1 + 1 := by
      show (W0.alloc _).heap.size = _
      simp [hsz0]
    have BNx := Lib.hid (bT BN0.out bW)
    have OTx := Lib.hid (OT0.out.below bW)
    have MOx := Lib.hid ((bW.block wr.heap.size (by omega)).trans MO0.out)
    have MRx := Lib.hid ((bW.block (w.heap.size + 1) (by omega)).trans M1a.out)
    have MTx := Lib.hid ((bW.block w.heap.size (by omega)).trans M0a.out)
    have qx := (bW.cell hg0).trans QB.out
    generalize (W0.alloc (.cells #[.int .i64 a, .int .i64 b, .int .i64 1] 47)).drew = W1a at *
    clear bW OT0 MO0 BN0 KB hsz0 hHeld M0a M1a QB hg0
    have cS := cellsAt MSx.out
    go_wp2_with fail
    clear cS qx
    have MS0 := MSx
    have MSb := Lib.hid (heap_setCell_same W1a (wr.heap.size + 1) 2 _ 47 (.int .i64 2) MS0.out)
    have BNb := Lib.hid (BNx.out.setCell (p := ⟨wr.heap.size + 1, 2, none⟩) (by show w.heap.size ≤ wr.heap.size + 1; omega) (.int .i64 2))
    have OTb : Hid (OwT (W1a.setCell ⟨wr.heap.size + 1, 2, none⟩ (.int .i64 2)) C (.slice sl1 rs.length cap1) (.slice sl2 ps.length cap2) rs ps) := by
      have gs := grown_set W1a (wr.heap.size + 1) 2 (.int .i64 2)
      have n1 : (Value.slice sl1 rs.length cap1).ownBlock = none ∨ (Value.slice sl1 rs.length cap1).ownBlock ≠ some (wr.heap.size + 1) := .inr (own_diffB OTx.out.r1 MS0.out (by decide))
      have n2 : (Value.slice sl2 ps.length cap2).ownBlock ≠ some (wr.heap.size + 1) := fun e => by
        have := (World.ownsRow.lt OT.out.r2 _ e).2
        omega
      exact ⟨OTx.out.r1.kept gs n1, OTx.out.r2.kept gs (.inr n2), fun r hr => (OTx.out.dom r hr).keptB MS0.out (by decide) gs, OTx.out.diff⟩
    have MOb0 := Lib.hid ((Below.heap_setCell W1a ⟨wr.heap.size + 1, 2, none⟩ (.int .i64 2) wr.heap.size (by show wr.heap.size ≠ wr.heap.size + 1; omega)).trans MOx.out)
    have MRb := Lib.hid ((Below.heap_setCell W1a ⟨wr.heap.size + 1, 2, none⟩ (.int .i64 2) (w.heap.size + 1) (by show w.heap.size + 1 ≠ wr.heap.size + 1; omega)).trans MRx.out)
    have MTb := Lib.hid ((Below.heap_setCell W1a ⟨wr.heap.size + 1, 2, none⟩ (.int .i64 2) w.heap.size (by show w.heap.size ≠ wr.heap.size + 1; omega)).trans MTx.out)
    have hs1 : (W1a.setCell ⟨wr.heap.size + 1, 2, none⟩ (.int .i64 2)).heap.size = wr.heap.size + 1 + 1 := by rw [← hsx]; simp [World.setCell]
    generalize W1a.setCell ⟨wr.heap.size + 1, 2, none⟩ (.int .i64 2) = W1 at *
    have MS1 : Hid (W1.heap[wr.heap.size + 1]? = some (.cells #[.int .i64 a, .int .i64 b, .int .i64 2] 47)) := by
      have := MSb.out
      show _ = _
      simpa using this
    have BN1 := BNb
    have OT1 := OTb
    have MO1 := MOb0
    have MR1 := MRb
    have MT1 := MTb
    clear MS0 MSb BNb OTb MOb0 MRb MTb
    have hobl : wr.heap.size < W1.heap.size := by omega
    have hsbl : wr.heap.size + 1 < W1.heap.size := by omega
    have hn1l : w.heap.size + 1 < W1.heap.size := by omega
    have hn0l : w.heap.size < W1.heap.size := by omega
    have hC1 : C ≤ W1.heap.size := by omega
    have KS : Hid (∀ W, Below W1.heap.size W1 W → W.cell? ⟨w.heap.size, 1, none⟩ = some (.slice sl2 ps.length cap2) ∧ W.cell? ⟨wr.heap.size + 1, 0, none⟩ = some (.int .i64 a) ∧ W.cell? ⟨wr.heap.size + 1, 1, none⟩ = some (.int .i64 b) ∧ W.cell? ⟨wr.heap.size + 1, 2, none⟩ = some (.int .i64 2)) := fun W hW => ⟨(hW.cell hn0l).trans (by rw [(cellsAt MT1.out).1]; rfl), (hW.cell hsbl).trans (by rw [(cellsAt MS1.out).1]; rfl), (hW.cell hsbl).trans (by rw [(cellsAt MS1.out).1]; rfl), (hW.cell hsbl).trans (by rw [(cellsAt MS1.out).1]; rfl)⟩
    have BD := Lib.hid (Below.refl W1.heap.size W1).drew
    clear hs1
    refine wp_region_held_drew (S := fun W => W.cell? ⟨w.heap.size, 1, none⟩ = some (.slice sl2 ps.length cap2) ∧ W.cell? ⟨wr.heap.size + 1, 0, none⟩ = some (.int .i64 a) ∧ W.cell? ⟨wr.heap.size + 1, 1, none⟩ = some (.int .i64 b) ∧ W.cell? ⟨wr.heap.size + 1, 2, none⟩ = some (.int .i64 2)) (by kernel_rfl) ?_ (fun hHeld => ?_)
    · exact KS.out _ BD.out
    generalize W1.drew = wd at *
    refine wpAnyH_take (i := 1) (oi := _) (v := ?_) rfl (by kernel_rfl) (by kernel_rfl) (by kernel_rfl) (fun _ _ _ h => h) (Or.inl ⟨by rfl, ?_⟩) (by assumption) ?_
    rotate_left
    · first | (intro w hSw; (try dsimp only at hSw); go_simp; done) | (intro w hSw; (try dsimp only at hSw); go_simp; with_reducible rfl)
    try simp only [Act.put, List.setIfInBounds_toArray, List.set_cons_zero, List.set_cons_succ, List.getElem_toArray, List.getElem_cons_succ, List.getElem_cons_zero]
    refine wpAnyH_take (i := 2) (oi := _) (v := ?_) rfl (by kernel_rfl) (by kernel_rfl) (by kernel_rfl) (fun _ _ _ h => h) (Or.inl ⟨by rfl, ?_⟩) (by assumption) ?_
    rotate_left
    · first | (intro w hSw; (try dsimp only at hSw); go_simp; done) | (intro w hSw; (try dsimp only at hSw); go_simp; with_reducible rfl)
    try simp only [Act.put, List.setIfInBounds_toArray, List.set_cons_zero, List.set_cons_succ, List.getElem_toArray, List.getElem_cons_succ, List.getElem_cons_zero]
    refine wpAnyH_take (i := 4) (oi := _) (v := ?_) rfl (by kernel_rfl) (by kernel_rfl) (by kernel_rfl) (fun _ _ _ h => h) (Or.inl ⟨by rfl, ?_⟩) (by assumption) ?_
    rotate_left
    · first | (intro w hSw; (try dsimp only at hSw); go_simp; done) | (intro w hSw; (try dsimp only at hSw); go_simp; with_reducible rfl)
    try simp only [Act.put, List.setIfInBounds_toArray, List.set_cons_zero, List.set_cons_succ, List.getElem_toArray, List.getElem_cons_succ, List.getElem_cons_zero]
    refine wpAnyH_ready (rs := [0, 5]) (by kernel_rfl) (by simp) ?_
    refine (AllReadyH.cons rfl (fun K hK => ?_) (AllReadyH.cons rfl (fun K hK => ?_) AllReadyH.nil))
    · go_simp
      go_wp2
      refine hK.out _ _ ?_ (fun hHeld => ?_)
      · exact KS.out _ (BD.out.alloc BD.out.size _)
      clear hK K hHeld
      have BX1 := Lib.hid (BD.out.alloc BD.out.size (.cells #[] 47))
      have OX1 := Lib.hid (own_mono (own_lit0 wd 47 3) BD.out.size)
      have hl1 : wd.heap.size < (wd.alloc (.cells #[] 47)).heap.size := by simp
      have hm1 := BD.out.size
      generalize wd.alloc (.cells #[] 47) = w1_ at *
      generalize wd.heap.size = bk1 at *
      have hb1 := hl1
      refine wpAnyH_ready (rs := [3, 5]) (by kernel_rfl) (by simp) ?_
      refine (AllReadyH.cons rfl (fun K hK => ?_) (AllReadyH.cons rfl (fun K hK => ?_) AllReadyH.nil))
      · refine step_append_own rfl (.tmp 108) (.tmp 110) 23 47 rfl iS (.agg #[.int .i64 0, .int .i64 0, .int .i64 0]) 3 24 Tryd.underlying23 hiS hzS0 hzS1 hzS2 rfl (by decide) (by decide) W1.heap.size bk1 (by simp [Act.eval, Act.put]) OX1.out C (.slice sl2 ps.length cap2) ps.length (prC ps) (by simp [Act.eval, Act.put]) ((OT1.out.below (BX1.out)).r2) (prC_one ps) (by omega) BX1.out.size ?_
        intro x2_ y2_ w2_ on2 gn2
        have BX2 := Lib.hid (BX1.out.grown gn2 BX1.out.size (fun k hk => by cases hk; exact (World.ownsRow.lt OX1.out bk1 rfl).1))
        refine hK.out _ _ ?_ (fun hHeld => ?_)
        · exact KS.out _ BX2.out
        clear hK K hHeld
        have OX2 := Lib.hid on2
        clear on2 gn2
        refine wpAnyH_ready (rs := [5]) (by kernel_rfl) (by simp) ?_
        refine (AllReadyH.cons rfl (fun K hK => ?_) AllReadyH.nil)
        · go_simp
          go_wp2
          refine hK.out _ _ ?_ (fun hHeld => ?_)
          · exact KS.out _ (BX2.out.alloc BX2.out.size _)
          clear hK K hHeld
          have BX3 := Lib.hid (BX2.out.alloc BX2.out.size (.cells #[.int .i64 a, .int .i64 b, .int .i64 2] 47))
          have OX3 := Lib.hid (own_below OX2.out (bA0 w2_ (.cells #[.int .i64 a, .int .i64 b, .int .i64 2] 47)))
          have SC3 := Lib.hid (cell_three_new w2_ (.int .i64 a) (.int .i64 b) (.int .i64 2) 47)
          have hl3 : w2_.heap.size < (w2_.alloc (.cells #[.int .i64 a, .int .i64 b, .int .i64 2] 47)).heap.size := by simp
          have hm3 := BX2.out.size
          generalize w2_.alloc (.cells #[.int .i64 a, .int .i64 b, .int .i64 2] 47) = w3_ at *
          generalize w2_.heap.size = bk3 at *
          have hs3 := hl3
          refine wpAnyH_ready (rs := [6]) (by kernel_rfl) (by simp) ?_
          refine (AllReadyH.cons rfl (fun K hK => ?_) AllReadyH.nil)
          · refine step_append_lies _ rfl (.tmp 111) (.tmp 113) 23 rfl W1.heap.size 47 iS _ 3 24 Tryd.underlying23 hiS hzS0 hzS1 hzS2 rfl (by decide) (.slice x2_ ps.length y2_) ps.length (prC ps) (by simp [Act.eval, Act.put]) OX3.out ⟨bk3, 0, none⟩ 1 1 [.int .i64 a, .int .i64 b, .int .i64 2] (by simp [Act.eval, Act.put]) rfl SC3.out (by simp [Value.oneCell']) (by decide) (by unfold maxLen; omega) (by omega) BX3.out.size _ rfl ?_
            intro g9 cap9 w4_ on4 gn4 hg4 hlt4
            have BX4 := Lib.hid (BX3.out.grown gn4 BX3.out.size (fun k hk => (World.ownsRow.lt OX3.out k hk).1))
            refine hK.out _ _ ?_ (fun hHeld => ?_)
            · exact KS.out _ BX4.out
            clear hK K hHeld
            have OX4 := Lib.hid on4
            clear on4 gn4 hg4 hlt4
            try simp only [Act.put, List.setIfInBounds_toArray, List.set_cons_zero, List.set_cons_succ, List.getElem_toArray, List.getElem_cons_succ, List.getElem_cons_zero]
            have hHeld := KS.out _ BX4.out
            refine wpAnyH_take (i := 7) (oi := _) (v := ?_) rfl (by kernel_rfl) (by kernel_rfl) (by kernel_rfl) (fun _ _ _ h => h) (Or.inl ⟨by rfl, ?_⟩) (by assumption) ?_
            rotate_left
            · first | (intro w hSw; (try dsimp only at hSw); go_simp; done) | (intro w hSw; (try dsimp only at hSw); go_simp; with_reducible rfl)
            try simp only [Act.put, List.setIfInBounds_toArray, List.set_cons_zero, List.set_cons_succ, List.getElem_toArray, List.getElem_cons_succ, List.getElem_cons_zero]
            clear hHeld
            refine wpAnyH_ready (rs := [8]) (by kernel_rfl) (by simp) ?_
            refine (AllReadyH.cons rfl (fun K hK => ?_) AllReadyH.nil)
            · have cO5 := cellsAt ((BX4.out.block wr.heap.size hobl).trans MO1.out)
              go_simp
              go_wp2
              refine hK.out _ _ ?_ (fun hHeld => ?_)
              · exact ⟨(World.cell?_of_block (Below.heap_setCell _ _ _ _ (by show w.heap.size ≠ wr.heap.size; omega))).trans (KS.out _ BX4.out).1, (World.cell?_of_block (Below.heap_setCell _ _ _ _ (by show wr.heap.size + 1 ≠ wr.heap.size; omega))).trans (KS.out _ BX4.out).2.1, (World.cell?_of_block (Below.heap_setCell _ _ _ _ (by show wr.heap.size + 1 ≠ wr.heap.size; omega))).trans (KS.out _ BX4.out).2.2.1, (World.cell?_of_block (Below.heap_setCell _ _ _ _ (by show wr.heap.size + 1 ≠ wr.heap.size; omega))).trans (KS.out _ BX4.out).2.2.2⟩
              clear hK K hHeld cO5
              refine wpAnyH_done (by kernel_rfl) ?_ _
              have MO2 := Lib.hid (heap_setCell_same w4_ wr.heap.size 1 _ 25 (.slice (some ⟨g9, 0, none⟩) (ps.length + 1) cap9) ((BX4.out.block wr.heap.size hobl).trans MO1.out))
              have MR2 := Lib.hid ((Below.heap_setCell w4_ ⟨wr.heap.size, 1, none⟩ (.slice (some ⟨g9, 0, none⟩) (ps.length + 1) cap9) (w.heap.size + 1) (by show w.heap.size + 1 ≠ wr.heap.size; omega)).trans ((BX4.out.block (w.heap.size + 1) hn1l).trans MR1.out))
              have MS2 := Lib.hid ((Below.heap_setCell w4_ ⟨wr.heap.size, 1, none⟩ (.slice (some ⟨g9, 0, none⟩) (ps.length + 1) cap9) (wr.heap.size + 1) (by show wr.heap.size + 1 ≠ wr.heap.size; omega)).trans ((BX4.out.block (wr.heap.size + 1) hsbl).trans MS1.out))
              have MOb := Lib.hid ((BX4.out.block wr.heap.size hobl).trans MO1.out)
              have CO : Hid (OwT (w4_.setCell ⟨wr.heap.size, 1, none⟩ (.slice (some ⟨g9, 0, none⟩) (ps.length + 1) cap9)) C (.slice sl1 rs.length cap1) (.slice (some ⟨g9, 0, none⟩) (ps.length + 1) cap9) rs (ps ++ [(a, b, 2)])) := by
                have oo := OT1.out.below BX4.out
                have gs := grown_set w4_ wr.heap.size 1 (.slice (some ⟨g9, 0, none⟩) (ps.length + 1) cap9)
                refine ⟨own_keptB oo.r1 MOb.out (by decide) gs, ?_, fun r hr => (oo.dom r hr).keptB MOb.out (by decide) gs, oo.diff⟩
                have := own_keptB (own_mono OX4.out hC1) MOb.out (by decide) gs
                rw [List.length_append, prC_add]
                exact this
              have BT2 := Lib.hid ((bT BN1.out BX4.out).setCell (p := ⟨wr.heap.size, 1, none⟩) (by show w.heap.size ≤ wr.heap.size; omega) (.slice (some ⟨g9, 0, none⟩) (ps.length + 1) cap9))
              have hn1 : w.heap.size + 1 < (w4_.setCell ⟨wr.heap.size, 1, none⟩ (.slice (some ⟨g9, 0, none⟩) (ps.length + 1) cap9)).heap.size := (Array.getElem?_eq_some_iff.1 MR2.out).1
              have hl0 : wr.heap.size < (w4_.setCell ⟨wr.heap.size, 1, none⟩ (.slice (some ⟨g9, 0, none⟩) (ps.length + 1) cap9)).heap.size := (Array.getElem?_eq_some_iff.1 MO2.out).1
              have hl1 : wr.heap.size + 1 < (w4_.setCell ⟨wr.heap.size, 1, none⟩ (.slice (some ⟨g9, 0, none⟩) (ps.length + 1) cap9)).heap.size := (Array.getElem?_eq_some_iff.1 MS2.out).1
              generalize w4_.setCell ⟨wr.heap.size, 1, none⟩ (.slice (some ⟨g9, 0, none⟩) (ps.length + 1) cap9) = W2 at *
              have KZ : Hid (∀ W, Below W2.heap.size W2 W → W.cell? ⟨wr.heap.size, 0, none⟩ = some (.slice sl1 rs.length cap1) ∧ W.cell? ⟨wr.heap.size, 1, none⟩ = some (.slice (some ⟨g9, 0, none⟩) (ps.length + 1) cap9) ∧ W.cell? ⟨wr.heap.size + 1, 0, none⟩ = some (.int .i64 a) ∧ W.cell? ⟨wr.heap.size + 1, 1, none⟩ = some (.int .i64 b) ∧ W.cell? ⟨wr.heap.size + 1, 2, none⟩ = some (.int .i64 2)) := fun W hW => ⟨(hW.cell hl0).trans (by rw [(cellsAt MO2.out).1]; rfl), (hW.cell hl0).trans (by rw [(cellsAt MO2.out).1]; rfl), (hW.cell hl1).trans (by rw [(cellsAt MS2.out).1]; rfl), (hW.cell hl1).trans (by rw [(cellsAt MS2.out).1]; rfl), (hW.cell hl1).trans (by rw [(cellsAt MS2.out).1]; rfl)⟩
              have TC : Hid (∀ W, Below W2.heap.size W2 W → Calls Tryd.prog 18 #[.agg #[.slice sl1 rs.length cap1, .slice (some ⟨g9, 0, none⟩) (ps.length + 1) cap9]] W fun e w' => e = .returned (.bool (B (TabR rs (ps ++ [(a, b, 2)])))) ∧ Below W.heap.size W w') := fun W hW => by
                have hC := CO.out.below hW
                obtain ⟨s1, k1, ev, hst⟩ := own_st hC
                obtain ⟨s2, k2, ev2, hpr⟩ := own_pr hC
                have := str_any s1 k1 s2 k2 _ _ W hst hpr
                rw [ev, ev2]
                exact this
              have TS : Hid (∀ W, Below W2.heap.size W2 W → Calls Tryd.prog 19 #[.agg #[.int .i64 a, .int .i64 b, .int .i64 2]] W fun e w' => e = .returned (.string ⟨(pairB (a, b, 2)).toArray⟩) ∧ Below W.heap.size W w') := fun W hW => pt_any a b 2 W hab.out.1 hab.out.2
              have HX : Hid ((((⟨(pairB (a, b, 2)).toArray⟩ : ByteArray).toList == s.toList) = true) ↔ besW ++ numsT z = s.data.toList) := by
                show _ ↔ _
                rw [beq_iff_eq, Go.ByteArray.toList_eq, Go.ByteArray.toList_eq, HZZ.out, ← pair_words a b 2 besW (by first | exact .inl rfl | exact .inr rfl) (by decide)]
              generalize hXB : (⟨(pairB (a, b, 2)).toArray⟩ : ByteArray) = XB at *
              clear hXB
              go_wp2_with fail
              by_cases hxe : (XB.toList == s.toList) = true
              · refine wp_region_held_drew (S := fun W => W.cell? ⟨wr.heap.size, 0, none⟩ = some (.slice sl1 rs.length cap1) ∧ W.cell? ⟨wr.heap.size, 1, none⟩ = some (.slice (some ⟨g9, 0, none⟩) (ps.length + 1) cap9) ∧ W.cell? ⟨wr.heap.size + 1, 0, none⟩ = some (.int .i64 a) ∧ W.cell? ⟨wr.heap.size + 1, 1, none⟩ = some (.int .i64 b) ∧ W.cell? ⟨wr.heap.size + 1, 2, none⟩ = some (.int .i64 2)) (by kernel_rfl) ?_ (fun hHeld => ?_)
                · exact KZ.out _ ((Below.refl _ _).drew)
                refine wpAnyH_take (i := 0) (oi := _) (v := ?_) rfl (by kernel_rfl) (by kernel_rfl) (by kernel_rfl) (fun _ _ _ h => h) (Or.inl ⟨by rfl, ?_⟩) (by assumption) ?_
                rotate_left
                · first | (intro w hSw; (try dsimp only at hSw); go_simp; done) | (intro w hSw; (try dsimp only at hSw); go_simp; with_reducible rfl)
                try simp only [Act.put, List.setIfInBounds_toArray, List.set_cons_zero, List.set_cons_succ, List.getElem_toArray, List.getElem_cons_zero]
                refine wpAnyH_take (i := 1) (oi := _) (v := ?_) rfl (by kernel_rfl) (by kernel_rfl) (by kernel_rfl) (fun _ _ _ h => h) (Or.inl ⟨by rfl, ?_⟩) (by assumption) ?_
                rotate_left
                · first | (intro w hSw; (try dsimp only at hSw); go_simp; done) | (intro w hSw; (try dsimp only at hSw); go_simp; with_reducible rfl)
                try simp only [Act.put, List.setIfInBounds_toArray, List.set_cons_zero, List.set_cons_succ, List.getElem_toArray, List.getElem_cons_succ, List.getElem_cons_zero]
                refine wpAnyH_take (i := 3) (oi := _) (v := ?_) rfl (by kernel_rfl) (by kernel_rfl) (by kernel_rfl) (fun _ _ _ h => h) (Or.inl ⟨by rfl, ?_⟩) (by assumption) ?_
                rotate_left
                · first | (intro w hSw; (try dsimp only at hSw); go_simp; done) | (intro w hSw; (try dsimp only at hSw); go_simp; with_reducible rfl)
                try simp only [Act.put, List.setIfInBounds_toArray, List.set_cons_zero, List.set_cons_succ, List.getElem_toArray, List.getElem_cons_succ, List.getElem_cons_zero]
                refine wpAnyH_ready (rs := [2]) (by kernel_rfl) (by simp) ?_
                refine AllReadyH.cons rfl (fun K hK => ?_) AllReadyH.nil
                go_simp
                go_wp2_with (go_at_call 19; refine (TS.out _ ((Below.refl _ _).drew)).mono ?_; rintro e w11 ⟨rfl, b11⟩; have B11 := Lib.hid (((Below.refl W2.heap.size W2).drew).trans b11); clear b11)
                refine hK.out _ _ ?_ (fun hHeld => ?_)
                · exact KZ.out _ B11.out
                clear hK K
                refine wpAnyH_take (i := 4) (oi := _) (v := ?_) rfl (by kernel_rfl) (by kernel_rfl) (by kernel_rfl) (fun _ _ _ h => h) (Or.inl ⟨by rfl, ?_⟩) (by assumption) ?_
                rotate_left
                · first | (intro w hSw; (try dsimp only at hSw); go_simp; done) | (intro w hSw; (try dsimp only at hSw); go_simp; with_reducible rfl)
                try simp only [Act.put, List.setIfInBounds_toArray, List.set_cons_zero, List.set_cons_succ, List.getElem_toArray, List.getElem_cons_succ, List.getElem_cons_zero]
                refine wpAnyH_take (i := 5) (oi := _) (v := ?_) rfl (by kernel_rfl) (by kernel_rfl) (by kernel_rfl) (fun _ _ _ h => h) (Or.inl ⟨by rfl, ?_⟩) (by assumption) ?_
                rotate_left
                · first | (intro w hSw; (try dsimp only at hSw); go_simp; done) | (intro w hSw; (try dsimp only at hSw); go_simp; with_reducible rfl)
                try simp only [Act.put, List.setIfInBounds_toArray, List.set_cons_zero, List.set_cons_succ, List.getElem_toArray, List.getElem_cons_succ, List.getElem_cons_zero]
                refine wpAnyH_take (i := 6) (oi := _) (v := ?_) rfl (by kernel_rfl) (by kernel_rfl) (by kernel_rfl) (fun _ _ _ h => h) (Or.inl ⟨by rfl, ?_⟩) (by assumption) ?_
                rotate_left
                · first | (intro w hSw; (try dsimp only at hSw); go_simp; done) | (intro w hSw; (try dsimp only at hSw); go_simp; with_reducible rfl)
                try simp only [Act.put, List.setIfInBounds_toArray, List.set_cons_zero, List.set_cons_succ, List.getElem_toArray, List.getElem_cons_succ, List.getElem_cons_zero]
                refine wpAnyH_ready (rs := [7]) (by kernel_rfl) (by simp) ?_
                refine AllReadyH.cons rfl (fun K hK => ?_) AllReadyH.nil
                go_simp
                go_wp2_with (go_at_call 18; refine (TC.out _ B11.out).mono ?_; rintro e w12 ⟨rfl, b12⟩; have B12 := Lib.hid (bT B11.out b12); have c12 := cellsAt ((B12.out.block (w.heap.size + 1) hn1).trans MR2.out); clear b12)
                refine hK.out _ _ ?_ (fun hHeld => ?_)
                · exact KZ.out _ B12.out
                clear hK K
                refine wpAnyH_take (i := 8) (oi := _) (v := ?_) rfl (by kernel_rfl) (by kernel_rfl) (by kernel_rfl) (fun _ _ _ h => h) (Or.inl ⟨by rfl, ?_⟩) (by assumption) ?_
                rotate_left
                · first | (intro w hSw; (try dsimp only at hSw); go_simp; done) | (intro w hSw; (try dsimp only at hSw); go_simp; with_reducible rfl)
                try simp only [Act.put, List.setIfInBounds_toArray, List.set_cons_zero, List.set_cons_succ, List.getElem_toArray, List.getElem_cons_succ, List.getElem_cons_zero]
                refine wpAnyH_ready (rs := [9]) (by kernel_rfl) (by simp) ?_
                refine AllReadyH.cons rfl (fun K hK => ?_) AllReadyH.nil
                go_simp
                go_wp2
                refine hK.out _ _ ?_ (fun hHeld => ?_)
                · exact (fun hX => ⟨(set2_cell _ _ _ _ _ _ (by omega)).trans hX.1, (set2_cell _ _ _ _ _ _ (by omega)).trans hX.2.1, (set2_cell _ _ _ _ _ _ (by omega)).trans hX.2.2.1, (set2_cell _ _ _ _ _ _ (by omega)).trans hX.2.2.2.1, (set2_cell _ _ _ _ _ _ (by omega)).trans hX.2.2.2.2⟩) (KZ.out _ B12.out)
                clear hK K
                refine wpAnyH_take (i := 10) (oi := _) (v := ?_) rfl (by kernel_rfl) (by kernel_rfl) (by kernel_rfl) (fun _ _ _ h => h) (Or.inl ⟨by rfl, ?_⟩) (by assumption) ?_
                rotate_left
                · first | (intro w hSw; (try dsimp only at hSw); go_simp; done) | (intro w hSw; (try dsimp only at hSw); go_simp; with_reducible rfl)
                try simp only [Act.put, List.setIfInBounds_toArray, List.set_cons_zero, List.set_cons_succ, List.getElem_toArray, List.getElem_cons_succ, List.getElem_cons_zero]
                refine wpAnyH_done (by kernel_rfl) ?_ _
                have MZ0 := (B12.out.block (w.heap.size + 1) hn1).trans MR2.out
                have MZ1 := heap_setCell_same w12 (w.heap.size + 1) 0 _ 25 (.slice sl1 rs.length cap1) MZ0
                have MZ2 := heap_setCell_same _ (w.heap.size + 1) 1 _ 25 (.slice (some ⟨g9, 0, none⟩) (ps.length + 1) cap9) MZ1
                have CZ := Lib.hid (((CO.out.below B12.out).keptB MZ0 (grown_set w12 (w.heap.size + 1) 0 (.slice sl1 rs.length cap1))).keptB MZ1 (grown_set _ (w.heap.size + 1) 1 (.slice (some ⟨g9, 0, none⟩) (ps.length + 1) cap9)))
                have BZ := Lib.hid (((bT BT2.out B12.out).setCell (p := ⟨w.heap.size + 1, 0, none⟩) (by show w.heap.size ≤ w.heap.size + 1; omega) (.slice sl1 rs.length cap1)).setCell (p := ⟨w.heap.size + 1, 1, none⟩) (by show w.heap.size ≤ w.heap.size + 1; omega) (.slice (some ⟨g9, 0, none⟩) (ps.length + 1) cap9))
                generalize (w12.setCell ⟨w.heap.size + 1, 0, none⟩ (.slice sl1 rs.length cap1)).setCell ⟨w.heap.size + 1, 1, none⟩ (.slice (some ⟨g9, 0, none⟩) (ps.length + 1) cap9) = w14 at *
                have r0 : w14.cell? ⟨w.heap.size + 1, 0, none⟩ = some (.slice sl1 rs.length cap1) := by rw [(cellsAt MZ2).1]; rfl
                have r1 : w14.cell? ⟨w.heap.size + 1, 1, none⟩ = some (.slice (some ⟨g9, 0, none⟩) (ps.length + 1) cap9) := by rw [(cellsAt MZ2).1]; rfl
                go_wp2
                exact bodyPost_ret (v := .tuple #[.agg #[.slice sl1 rs.length cap1, .slice (some ⟨g9, 0, none⟩) (ps.length + 1) cap9], .bool (B (TabR rs (ps ++ [(a, b, 2)])))]) (by simp [results, Tryd.results10, go_sem, r0, r1]) rfl (by rw [HMs.out]; exact LinePost.of (ok := B (TabR rs (ps ++ [(a, b, 2)]))) (rs := rs) (ps := (ps ++ [(a, b, 2)])) ⟨_, _, rfl, CZ.out, BZ.out.mono hB, keep_below BZ.out⟩ (fun hy => HYes.out (HX.out.1 hxe) hy) (fun hn => HNot.out (fun h2 => by rw [B_yes h2.2] at hn; cases hn)))

              · have hxf : (XB.toList == s.toList) = false := by simpa using hxe
                refine wp_region_held_drew (S := fun W => W.cell? ⟨wr.heap.size, 0, none⟩ = some (.slice sl1 rs.length cap1) ∧ W.cell? ⟨wr.heap.size, 1, none⟩ = some (.slice (some ⟨g9, 0, none⟩) (ps.length + 1) cap9) ∧ W.cell? ⟨wr.heap.size + 1, 0, none⟩ = some (.int .i64 a) ∧ W.cell? ⟨wr.heap.size + 1, 1, none⟩ = some (.int .i64 b) ∧ W.cell? ⟨wr.heap.size + 1, 2, none⟩ = some (.int .i64 2)) (by kernel_rfl) ?_ (fun hHeld => ?_)
                · exact KZ.out _ ((Below.refl _ _).drew)
                refine wpAnyH_take (i := 0) (oi := _) (v := ?_) rfl (by kernel_rfl) (by kernel_rfl) (by kernel_rfl) (fun _ _ _ h => h) (Or.inl ⟨by rfl, ?_⟩) (by assumption) ?_
                rotate_left
                · first | (intro w hSw; (try dsimp only at hSw); go_simp; done) | (intro w hSw; (try dsimp only at hSw); go_simp; with_reducible rfl)
                try simp only [Act.put, List.setIfInBounds_toArray, List.set_cons_zero, List.set_cons_succ, List.getElem_toArray, List.getElem_cons_zero]
                refine wpAnyH_take (i := 1) (oi := _) (v := ?_) rfl (by kernel_rfl) (by kernel_rfl) (by kernel_rfl) (fun _ _ _ h => h) (Or.inl ⟨by rfl, ?_⟩) (by assumption) ?_
                rotate_left
                · first | (intro w hSw; (try dsimp only at hSw); go_simp; done) | (intro w hSw; (try dsimp only at hSw); go_simp; with_reducible rfl)
                try simp only [Act.put, List.setIfInBounds_toArray, List.set_cons_zero, List.set_cons_succ, List.getElem_toArray, List.getElem_cons_succ, List.getElem_cons_zero]
                refine wpAnyH_take (i := 3) (oi := _) (v := ?_) rfl (by kernel_rfl) (by kernel_rfl) (by kernel_rfl) (fun _ _ _ h => h) (Or.inl ⟨by rfl, ?_⟩) (by assumption) ?_
                rotate_left
                · first | (intro w hSw; (try dsimp only at hSw); go_simp; done) | (intro w hSw; (try dsimp only at hSw); go_simp; with_reducible rfl)
                try simp only [Act.put, List.setIfInBounds_toArray, List.set_cons_zero, List.set_cons_succ, List.getElem_toArray, List.getElem_cons_succ, List.getElem_cons_zero]
                refine wpAnyH_ready (rs := [2]) (by kernel_rfl) (by simp) ?_
                refine AllReadyH.cons rfl (fun K hK => ?_) AllReadyH.nil
                go_simp
                go_wp2_with (go_at_call 19; refine (TS.out _ ((Below.refl _ _).drew)).mono ?_; rintro e w11 ⟨rfl, b11⟩; have B11 := Lib.hid (((Below.refl W2.heap.size W2).drew).trans b11); clear b11; have c11 := cellsAt ((B11.out.block (w.heap.size + 1) hn1).trans MR2.out))
                refine hK.out _ _ ?_ (fun hHeld => ?_)
                · exact KZ.out _ B11.out
                clear hK K
                refine wpAnyH_take (i := 4) (oi := _) (v := ?_) rfl (by kernel_rfl) (by kernel_rfl) (by kernel_rfl) (fun _ _ _ h => h) (Or.inl ⟨by rfl, ?_⟩) (by assumption) ?_
                rotate_left
                · first | (intro w hSw; (try dsimp only at hSw); go_simp; done) | (intro w hSw; (try dsimp only at hSw); go_simp; with_reducible rfl)
                try simp only [Act.put, List.setIfInBounds_toArray, List.set_cons_zero, List.set_cons_succ, List.getElem_toArray, List.getElem_cons_succ, List.getElem_cons_zero]
                refine wpAnyH_take (i := 5) (oi := _) (v := ?_) rfl (by kernel_rfl) (by kernel_rfl) (by kernel_rfl) (fun _ _ _ h => h) (Or.inl ⟨by rfl, ?_⟩) (by assumption) ?_
                rotate_left
                · first | (intro w hSw; (try dsimp only at hSw); go_simp; done) | (intro w hSw; (try dsimp only at hSw); go_simp; with_reducible rfl)
                try simp only [Act.put, List.setIfInBounds_toArray, List.set_cons_zero, List.set_cons_succ, List.getElem_toArray, List.getElem_cons_succ, List.getElem_cons_zero]
                refine wpAnyH_take (i := 6) (oi := _) (v := undef) rfl (by kernel_rfl) (by kernel_rfl) (by kernel_rfl) (fun _ _ _ h => h) (Or.inr ⟨by rfl, rfl⟩) (by assumption) ?_
                try simp only [Act.put, List.setIfInBounds_toArray, List.set_cons_zero, List.set_cons_succ, List.getElem_toArray, List.getElem_cons_succ, List.getElem_cons_zero]
                refine wpAnyH_take (i := 7) (oi := _) (v := undef) rfl (by kernel_rfl) (by kernel_rfl) (by kernel_rfl) (fun _ _ _ h => h) (Or.inr ⟨by rfl, rfl⟩) (by assumption) ?_
                try simp only [Act.put, List.setIfInBounds_toArray, List.set_cons_zero, List.set_cons_succ, List.getElem_toArray, List.getElem_cons_succ, List.getElem_cons_zero]
                refine wpAnyH_take (i := 8) (oi := _) (v := ?_) rfl (by kernel_rfl) (by kernel_rfl) (by kernel_rfl) (fun _ _ _ h => h) (Or.inl ⟨by rfl, ?_⟩) (by assumption) ?_
                rotate_left
                · first | (intro w hSw; (try dsimp only at hSw); go_simp; done) | (intro w hSw; (try dsimp only at hSw); go_simp; with_reducible rfl)
                try simp only [Act.put, List.setIfInBounds_toArray, List.set_cons_zero, List.set_cons_succ, List.getElem_toArray, List.getElem_cons_succ, List.getElem_cons_zero]
                refine wpAnyH_ready (rs := [9]) (by kernel_rfl) (by simp) ?_
                refine AllReadyH.cons rfl (fun K hK => ?_) AllReadyH.nil
                go_simp
                go_wp2
                refine hK.out _ _ ?_ (fun hHeld => ?_)
                · exact (fun hX => ⟨(set2_cell _ _ _ _ _ _ (by omega)).trans hX.1, (set2_cell _ _ _ _ _ _ (by omega)).trans hX.2.1, (set2_cell _ _ _ _ _ _ (by omega)).trans hX.2.2.1, (set2_cell _ _ _ _ _ _ (by omega)).trans hX.2.2.2.1, (set2_cell _ _ _ _ _ _ (by omega)).trans hX.2.2.2.2⟩) (KZ.out _ B11.out)
                clear hK K
                refine wpAnyH_take (i := 10) (oi := _) (v := ?_) rfl (by kernel_rfl) (by kernel_rfl) (by kernel_rfl) (fun _ _ _ h => h) (Or.inl ⟨by rfl, ?_⟩) (by assumption) ?_
                rotate_left
                · first | (intro w hSw; (try dsimp only at hSw); go_simp; done) | (intro w hSw; (try dsimp only at hSw); go_simp; with_reducible rfl)
                try simp only [Act.put, List.setIfInBounds_toArray, List.set_cons_zero, List.set_cons_succ, List.getElem_toArray, List.getElem_cons_succ, List.getElem_cons_zero]
                refine wpAnyH_done (by kernel_rfl) ?_ _
                have MZ0 := (B11.out.block (w.heap.size + 1) hn1).trans MR2.out
                have MZ1 := heap_setCell_same w11 (w.heap.size + 1) 0 _ 25 (.slice sl1 rs.length cap1) MZ0
                have MZ2 := heap_setCell_same _ (w.heap.size + 1) 1 _ 25 (.slice (some ⟨g9, 0, none⟩) (ps.length + 1) cap9) MZ1
                have CZ := Lib.hid (((CO.out.below B11.out).keptB MZ0 (grown_set w11 (w.heap.size + 1) 0 (.slice sl1 rs.length cap1))).keptB MZ1 (grown_set _ (w.heap.size + 1) 1 (.slice (some ⟨g9, 0, none⟩) (ps.length + 1) cap9)))
                have BZ := Lib.hid (((bT BT2.out B11.out).setCell (p := ⟨w.heap.size + 1, 0, none⟩) (by show w.heap.size ≤ w.heap.size + 1; omega) (.slice sl1 rs.length cap1)).setCell (p := ⟨w.heap.size + 1, 1, none⟩) (by show w.heap.size ≤ w.heap.size + 1; omega) (.slice (some ⟨g9, 0, none⟩) (ps.length + 1) cap9))
                generalize (w11.setCell ⟨w.heap.size + 1, 0, none⟩ (.slice sl1 rs.length cap1)).setCell ⟨w.heap.size + 1, 1, none⟩ (.slice (some ⟨g9, 0, none⟩) (ps.length + 1) cap9) = w14 at *
                have r0 : w14.cell? ⟨w.heap.size + 1, 0, none⟩ = some (.slice sl1 rs.length cap1) := by rw [(cellsAt MZ2).1]; rfl
                have r1 : w14.cell? ⟨w.heap.size + 1, 1, none⟩ = some (.slice (some ⟨g9, 0, none⟩) (ps.length + 1) cap9) := by rw [(cellsAt MZ2).1]; rfl
                go_wp2
                exact bodyPost_ret (v := .tuple #[.agg #[.slice sl1 rs.length cap1, .slice (some ⟨g9, 0, none⟩) (ps.length + 1) cap9], .bool false]) (by simp [results, Tryd.results10, go_sem, r0, r1]) rfl (by rw [HMs.out]; exact LinePost.of (ok := false) (rs := rs) (ps := (ps ++ [(a, b, 2)])) ⟨_, _, rfl, CZ.out, BZ.out.mono hB, keep_below BZ.out⟩ (fun hy => by cases hy) (fun _ => HNot.out (fun h2 => hxe (HX.out.2 h2.1))))
      · go_simp
        go_wp2
        refine hK.out _ _ ?_ (fun hHeld => ?_)
        · exact KS.out _ (BX1.out.alloc BX1.out.size _)
        clear hK K hHeld
        have BX6 := Lib.hid (BX1.out.alloc BX1.out.size (.cells #[.int .i64 a, .int .i64 b, .int .i64 2] 47))
        have OX6 := Lib.hid (own_below OX1.out (bA0 w1_ (.cells #[.int .i64 a, .int .i64 b, .int .i64 2] 47)))
        have SC6 := Lib.hid (cell_three_new w1_ (.int .i64 a) (.int .i64 b) (.int .i64 2) 47)
        have hl6 : w1_.heap.size < (w1_.alloc (.cells #[.int .i64 a, .int .i64 b, .int .i64 2] 47)).heap.size := by simp
        have hm6 := BX1.out.size
        have hb6 := Nat.lt_trans hb1 hl6
        generalize w1_.alloc (.cells #[.int .i64 a, .int .i64 b, .int .i64 2] 47) = w6_ at *
        generalize w1_.heap.size = bk6 at *
        have hs6 := hl6
        refine wpAnyH_ready (rs := [3]) (by kernel_rfl) (by simp) ?_
        refine (AllReadyH.cons rfl (fun K hK => ?_) AllReadyH.nil)
        · refine step_append_own rfl (.tmp 108) (.tmp 110) 23 47 rfl iS (.agg #[.int .i64 0, .int .i64 0, .int .i64 0]) 3 24 Tryd.underlying23 hiS hzS0 hzS1 hzS2 rfl (by decide) (by decide) W1.heap.size bk1 (by simp [Act.eval, Act.put]) OX6.out C (.slice sl2 ps.length cap2) ps.length (prC ps) (by simp [Act.eval, Act.put]) ((OT1.out.below (BX6.out)).r2) (prC_one ps) (by omega) BX6.out.size ?_
          intro x7_ y7_ w7_ on7 gn7
          have BX7 := Lib.hid (BX6.out.grown gn7 BX6.out.size (fun k hk => by cases hk; exact (World.ownsRow.lt OX6.out bk1 rfl).1))
          refine hK.out _ _ ?_ (fun hHeld => ?_)
          · exact KS.out _ BX7.out
          clear hK K hHeld
          have OX7 := Lib.hid on7
          have hne7 : bk6 ≠ bk1 := by omega
          have SC7 := Lib.hid (sc_below SC6.out hs6 (gn7.block bk6 hs6 (fun e => hne7 (Option.some.inj e))))
          have hs7 := Nat.lt_of_lt_of_le hs6 gn7.size
          clear on7 gn7
          refine wpAnyH_ready (rs := [6]) (by kernel_rfl) (by simp) ?_
          refine (AllReadyH.cons rfl (fun K hK => ?_) AllReadyH.nil)
          · refine step_append_lies _ rfl (.tmp 111) (.tmp 113) 23 rfl W1.heap.size 47 iS _ 3 24 Tryd.underlying23 hiS hzS0 hzS1 hzS2 rfl (by decide) (.slice x7_ ps.length y7_) ps.length (prC ps) (by simp [Act.eval, Act.put]) OX7.out ⟨bk6, 0, none⟩ 1 1 [.int .i64 a, .int .i64 b, .int .i64 2] (by simp [Act.eval, Act.put]) rfl SC7.out (by simp [Value.oneCell']) (by decide) (by unfold maxLen; omega) (by omega) BX7.out.size _ rfl ?_
            intro g9 cap9 w8_ on8 gn8 hg8 hlt8
            have BX8 := Lib.hid (BX7.out.grown gn8 BX7.out.size (fun k hk => (World.ownsRow.lt OX7.out k hk).1))
            refine hK.out _ _ ?_ (fun hHeld => ?_)
            · exact KS.out _ BX8.out
            clear hK K hHeld
            have OX8 := Lib.hid on8
            clear on8 gn8 hg8 hlt8
            try simp only [Act.put, List.setIfInBounds_toArray, List.set_cons_zero, List.set_cons_succ, List.getElem_toArray, List.getElem_cons_succ, List.getElem_cons_zero]
            have hHeld := KS.out _ BX8.out
            refine wpAnyH_take (i := 7) (oi := _) (v := ?_) rfl (by kernel_rfl) (by kernel_rfl) (by kernel_rfl) (fun _ _ _ h => h) (Or.inl ⟨by rfl, ?_⟩) (by assumption) ?_
            rotate_left
            · first | (intro w hSw; (try dsimp only at hSw); go_simp; done) | (intro w hSw; (try dsimp only at hSw); go_simp; with_reducible rfl)
            try simp only [Act.put, List.setIfInBounds_toArray, List.set_cons_zero, List.set_cons_succ, List.getElem_toArray, List.getElem_cons_succ, List.getElem_cons_zero]
            clear hHeld
            refine wpAnyH_ready (rs := [8]) (by kernel_rfl) (by simp) ?_
            refine (AllReadyH.cons rfl (fun K hK => ?_) AllReadyH.nil)
            · have cO9 := cellsAt ((BX8.out.block wr.heap.size hobl).trans MO1.out)
              go_simp
              go_wp2
              refine hK.out _ _ ?_ (fun hHeld => ?_)
              · exact ⟨(World.cell?_of_block (Below.heap_setCell _ _ _ _ (by show w.heap.size ≠ wr.heap.size; omega))).trans (KS.out _ BX8.out).1, (World.cell?_of_block (Below.heap_setCell _ _ _ _ (by show wr.heap.size + 1 ≠ wr.heap.size; omega))).trans (KS.out _ BX8.out).2.1, (World.cell?_of_block (Below.heap_setCell _ _ _ _ (by show wr.heap.size + 1 ≠ wr.heap.size; omega))).trans (KS.out _ BX8.out).2.2.1, (World.cell?_of_block (Below.heap_setCell _ _ _ _ (by show wr.heap.size + 1 ≠ wr.heap.size; omega))).trans (KS.out _ BX8.out).2.2.2⟩
              clear hK K hHeld cO9
              refine wpAnyH_done (by kernel_rfl) ?_ _
              have MO2 := Lib.hid (heap_setCell_same w8_ wr.heap.size 1 _ 25 (.slice (some ⟨g9, 0, none⟩) (ps.length + 1) cap9) ((BX8.out.block wr.heap.size hobl).trans MO1.out))
              have MR2 := Lib.hid ((Below.heap_setCell w8_ ⟨wr.heap.size, 1, none⟩ (.slice (some ⟨g9, 0, none⟩) (ps.length + 1) cap9) (w.heap.size + 1) (by show w.heap.size + 1 ≠ wr.heap.size; omega)).trans ((BX8.out.block (w.heap.size + 1) hn1l).trans MR1.out))
              have MS2 := Lib.hid ((Below.heap_setCell w8_ ⟨wr.heap.size, 1, none⟩ (.slice (some ⟨g9, 0, none⟩) (ps.length + 1) cap9) (wr.heap.size + 1) (by show wr.heap.size + 1 ≠ wr.heap.size; omega)).trans ((BX8.out.block (wr.heap.size + 1) hsbl).trans MS1.out))
              have MOb := Lib.hid ((BX8.out.block wr.heap.size hobl).trans MO1.out)
              have CO : Hid (OwT (w8_.setCell ⟨wr.heap.size, 1, none⟩ (.slice (some ⟨g9, 0, none⟩) (ps.length + 1) cap9)) C (.slice sl1 rs.length cap1) (.slice (some ⟨g9, 0, none⟩) (ps.length + 1) cap9) rs (ps ++ [(a, b, 2)])) := by
                have oo := OT1.out.below BX8.out
                have gs := grown_set w8_ wr.heap.size 1 (.slice (some ⟨g9, 0, none⟩) (ps.length + 1) cap9)
                refine ⟨own_keptB oo.r1 MOb.out (by decide) gs, ?_, fun r hr => (oo.dom r hr).keptB MOb.out (by decide) gs, oo.diff⟩
                have := own_keptB (own_mono OX8.out hC1) MOb.out (by decide) gs
                rw [List.length_append, prC_add]
                exact this
              have BT2 := Lib.hid ((bT BN1.out BX8.out).setCell (p := ⟨wr.heap.size, 1, none⟩) (by show w.heap.size ≤ wr.heap.size; omega) (.slice (some ⟨g9, 0, none⟩) (ps.length + 1) cap9))
              have hn1 : w.heap.size + 1 < (w8_.setCell ⟨wr.heap.size, 1, none⟩ (.slice (some ⟨g9, 0, none⟩) (ps.length + 1) cap9)).heap.size := (Array.getElem?_eq_some_iff.1 MR2.out).1
              have hl0 : wr.heap.size < (w8_.setCell ⟨wr.heap.size, 1, none⟩ (.slice (some ⟨g9, 0, none⟩) (ps.length + 1) cap9)).heap.size := (Array.getElem?_eq_some_iff.1 MO2.out).1
              have hl1 : wr.heap.size + 1 < (w8_.setCell ⟨wr.heap.size, 1, none⟩ (.slice (some ⟨g9, 0, none⟩) (ps.length + 1) cap9)).heap.size := (Array.getElem?_eq_some_iff.1 MS2.out).1
              generalize w8_.setCell ⟨wr.heap.size, 1, none⟩ (.slice (some ⟨g9, 0, none⟩) (ps.length + 1) cap9) = W2 at *
              have KZ : Hid (∀ W, Below W2.heap.size W2 W → W.cell? ⟨wr.heap.size, 0, none⟩ = some (.slice sl1 rs.length cap1) ∧ W.cell? ⟨wr.heap.size, 1, none⟩ = some (.slice (some ⟨g9, 0, none⟩) (ps.length + 1) cap9) ∧ W.cell? ⟨wr.heap.size + 1, 0, none⟩ = some (.int .i64 a) ∧ W.cell? ⟨wr.heap.size + 1, 1, none⟩ = some (.int .i64 b) ∧ W.cell? ⟨wr.heap.size + 1, 2, none⟩ = some (.int .i64 2)) := fun W hW => ⟨(hW.cell hl0).trans (by rw [(cellsAt MO2.out).1]; rfl), (hW.cell hl0).trans (by rw [(cellsAt MO2.out).1]; rfl), (hW.cell hl1).trans (by rw [(cellsAt MS2.out).1]; rfl), (hW.cell hl1).trans (by rw [(cellsAt MS2.out).1]; rfl), (hW.cell hl1).trans (by rw [(cellsAt MS2.out).1]; rfl)⟩
              have TC : Hid (∀ W, Below W2.heap.size W2 W → Calls Tryd.prog 18 #[.agg #[.slice sl1 rs.length cap1, .slice (some ⟨g9, 0, none⟩) (ps.length + 1) cap9]] W fun e w' => e = .returned (.bool (B (TabR rs (ps ++ [(a, b, 2)])))) ∧ Below W.heap.size W w') := fun W hW => by
                have hC := CO.out.below hW
                obtain ⟨s1, k1, ev, hst⟩ := own_st hC
                obtain ⟨s2, k2, ev2, hpr⟩ := own_pr hC
                have := str_any s1 k1 s2 k2 _ _ W hst hpr
                rw [ev, ev2]
                exact this
              have TS : Hid (∀ W, Below W2.heap.size W2 W → Calls Tryd.prog 19 #[.agg #[.int .i64 a, .int .i64 b, .int .i64 2]] W fun e w' => e = .returned (.string ⟨(pairB (a, b, 2)).toArray⟩) ∧ Below W.heap.size W w') := fun W hW => pt_any a b 2 W hab.out.1 hab.out.2
              have HX : Hid ((((⟨(pairB (a, b, 2)).toArray⟩ : ByteArray).toList == s.toList) = true) ↔ besW ++ numsT z = s.data.toList) := by
                show _ ↔ _
                rw [beq_iff_eq, Go.ByteArray.toList_eq, Go.ByteArray.toList_eq, HZZ.out, ← pair_words a b 2 besW (by first | exact .inl rfl | exact .inr rfl) (by decide)]
              generalize hXB : (⟨(pairB (a, b, 2)).toArray⟩ : ByteArray) = XB at *
              clear hXB
              go_wp2_with fail
              by_cases hxe : (XB.toList == s.toList) = true
              · refine wp_region_held_drew (S := fun W => W.cell? ⟨wr.heap.size, 0, none⟩ = some (.slice sl1 rs.length cap1) ∧ W.cell? ⟨wr.heap.size, 1, none⟩ = some (.slice (some ⟨g9, 0, none⟩) (ps.length + 1) cap9) ∧ W.cell? ⟨wr.heap.size + 1, 0, none⟩ = some (.int .i64 a) ∧ W.cell? ⟨wr.heap.size + 1, 1, none⟩ = some (.int .i64 b) ∧ W.cell? ⟨wr.heap.size + 1, 2, none⟩ = some (.int .i64 2)) (by kernel_rfl) ?_ (fun hHeld => ?_)
                · exact KZ.out _ ((Below.refl _ _).drew)
                refine wpAnyH_take (i := 0) (oi := _) (v := ?_) rfl (by kernel_rfl) (by kernel_rfl) (by kernel_rfl) (fun _ _ _ h => h) (Or.inl ⟨by rfl, ?_⟩) (by assumption) ?_
                rotate_left
                · first | (intro w hSw; (try dsimp only at hSw); go_simp; done) | (intro w hSw; (try dsimp only at hSw); go_simp; with_reducible rfl)
                try simp only [Act.put, List.setIfInBounds_toArray, List.set_cons_zero, List.set_cons_succ, List.getElem_toArray, List.getElem_cons_zero]
                refine wpAnyH_take (i := 1) (oi := _) (v := ?_) rfl (by kernel_rfl) (by kernel_rfl) (by kernel_rfl) (fun _ _ _ h => h) (Or.inl ⟨by rfl, ?_⟩) (by assumption) ?_
                rotate_left
                · first | (intro w hSw; (try dsimp only at hSw); go_simp; done) | (intro w hSw; (try dsimp only at hSw); go_simp; with_reducible rfl)
                try simp only [Act.put, List.setIfInBounds_toArray, List.set_cons_zero, List.set_cons_succ, List.getElem_toArray, List.getElem_cons_succ, List.getElem_cons_zero]
                refine wpAnyH_take (i := 3) (oi := _) (v := ?_) rfl (by kernel_rfl) (by kernel_rfl) (by kernel_rfl) (fun _ _ _ h => h) (Or.inl ⟨by rfl, ?_⟩) (by assumption) ?_
                rotate_left
                · first | (intro w hSw; (try dsimp only at hSw); go_simp; done) | (intro w hSw; (try dsimp only at hSw); go_simp; with_reducible rfl)
                try simp only [Act.put, List.setIfInBounds_toArray, List.set_cons_zero, List.set_cons_succ, List.getElem_toArray, List.getElem_cons_succ, List.getElem_cons_zero]
                refine wpAnyH_ready (rs := [2]) (by kernel_rfl) (by simp) ?_
                refine AllReadyH.cons rfl (fun K hK => ?_) AllReadyH.nil
                go_simp
                go_wp2_with (go_at_call 19; refine (TS.out _ ((Below.refl _ _).drew)).mono ?_; rintro e w11 ⟨rfl, b11⟩; have B11 := Lib.hid (((Below.refl W2.heap.size W2).drew).trans b11); clear b11)
                refine hK.out _ _ ?_ (fun hHeld => ?_)
                · exact KZ.out _ B11.out
                clear hK K
                refine wpAnyH_take (i := 4) (oi := _) (v := ?_) rfl (by kernel_rfl) (by kernel_rfl) (by kernel_rfl) (fun _ _ _ h => h) (Or.inl ⟨by rfl, ?_⟩) (by assumption) ?_
                rotate_left
                · first | (intro w hSw; (try dsimp only at hSw); go_simp; done) | (intro w hSw; (try dsimp only at hSw); go_simp; with_reducible rfl)
                try simp only [Act.put, List.setIfInBounds_toArray, List.set_cons_zero, List.set_cons_succ, List.getElem_toArray, List.getElem_cons_succ, List.getElem_cons_zero]
                refine wpAnyH_take (i := 5) (oi := _) (v := ?_) rfl (by kernel_rfl) (by kernel_rfl) (by kernel_rfl) (fun _ _ _ h => h) (Or.inl ⟨by rfl, ?_⟩) (by assumption) ?_
                rotate_left
                · first | (intro w hSw; (try dsimp only at hSw); go_simp; done) | (intro w hSw; (try dsimp only at hSw); go_simp; with_reducible rfl)
                try simp only [Act.put, List.setIfInBounds_toArray, List.set_cons_zero, List.set_cons_succ, List.getElem_toArray, List.getElem_cons_succ, List.getElem_cons_zero]
                refine wpAnyH_take (i := 6) (oi := _) (v := ?_) rfl (by kernel_rfl) (by kernel_rfl) (by kernel_rfl) (fun _ _ _ h => h) (Or.inl ⟨by rfl, ?_⟩) (by assumption) ?_
                rotate_left
                · first | (intro w hSw; (try dsimp only at hSw); go_simp; done) | (intro w hSw; (try dsimp only at hSw); go_simp; with_reducible rfl)
                try simp only [Act.put, List.setIfInBounds_toArray, List.set_cons_zero, List.set_cons_succ, List.getElem_toArray, List.getElem_cons_succ, List.getElem_cons_zero]
                refine wpAnyH_ready (rs := [7]) (by kernel_rfl) (by simp) ?_
                refine AllReadyH.cons rfl (fun K hK => ?_) AllReadyH.nil
                go_simp
                go_wp2_with (go_at_call 18; refine (TC.out _ B11.out).mono ?_; rintro e w12 ⟨rfl, b12⟩; have B12 := Lib.hid (bT B11.out b12); have c12 := cellsAt ((B12.out.block (w.heap.size + 1) hn1).trans MR2.out); clear b12)
                refine hK.out _ _ ?_ (fun hHeld => ?_)
                · exact KZ.out _ B12.out
                clear hK K
                refine wpAnyH_take (i := 8) (oi := _) (v := ?_) rfl (by kernel_rfl) (by kernel_rfl) (by kernel_rfl) (fun _ _ _ h => h) (Or.inl ⟨by rfl, ?_⟩) (by assumption) ?_
                rotate_left
                · first | (intro w hSw; (try dsimp only at hSw); go_simp; done) | (intro w hSw; (try dsimp only at hSw); go_simp; with_reducible rfl)
                try simp only [Act.put, List.setIfInBounds_toArray, List.set_cons_zero, List.set_cons_succ, List.getElem_toArray, List.getElem_cons_succ, List.getElem_cons_zero]
                refine wpAnyH_ready (rs := [9]) (by kernel_rfl) (by simp) ?_
                refine AllReadyH.cons rfl (fun K hK => ?_) AllReadyH.nil
                go_simp
                go_wp2
                refine hK.out _ _ ?_ (fun hHeld => ?_)
                · exact (fun hX => ⟨(set2_cell _ _ _ _ _ _ (by omega)).trans hX.1, (set2_cell _ _ _ _ _ _ (by omega)).trans hX.2.1, (set2_cell _ _ _ _ _ _ (by omega)).trans hX.2.2.1, (set2_cell _ _ _ _ _ _ (by omega)).trans hX.2.2.2.1, (set2_cell _ _ _ _ _ _ (by omega)).trans hX.2.2.2.2⟩) (KZ.out _ B12.out)
                clear hK K
                refine wpAnyH_take (i := 10) (oi := _) (v := ?_) rfl (by kernel_rfl) (by kernel_rfl) (by kernel_rfl) (fun _ _ _ h => h) (Or.inl ⟨by rfl, ?_⟩) (by assumption) ?_
                rotate_left
                · first | (intro w hSw; (try dsimp only at hSw); go_simp; done) | (intro w hSw; (try dsimp only at hSw); go_simp; with_reducible rfl)
                try simp only [Act.put, List.setIfInBounds_toArray, List.set_cons_zero, List.set_cons_succ, List.getElem_toArray, List.getElem_cons_succ, List.getElem_cons_zero]
                refine wpAnyH_done (by kernel_rfl) ?_ _
                have MZ0 := (B12.out.block (w.heap.size + 1) hn1).trans MR2.out
                have MZ1 := heap_setCell_same w12 (w.heap.size + 1) 0 _ 25 (.slice sl1 rs.length cap1) MZ0
                have MZ2 := heap_setCell_same _ (w.heap.size + 1) 1 _ 25 (.slice (some ⟨g9, 0, none⟩) (ps.length + 1) cap9) MZ1
                have CZ := Lib.hid (((CO.out.below B12.out).keptB MZ0 (grown_set w12 (w.heap.size + 1) 0 (.slice sl1 rs.length cap1))).keptB MZ1 (grown_set _ (w.heap.size + 1) 1 (.slice (some ⟨g9, 0, none⟩) (ps.length + 1) cap9)))
                have BZ := Lib.hid (((bT BT2.out B12.out).setCell (p := ⟨w.heap.size + 1, 0, none⟩) (by show w.heap.size ≤ w.heap.size + 1; omega) (.slice sl1 rs.length cap1)).setCell (p := ⟨w.heap.size + 1, 1, none⟩) (by show w.heap.size ≤ w.heap.size + 1; omega) (.slice (some ⟨g9, 0, none⟩) (ps.length + 1) cap9))
                generalize (w12.setCell ⟨w.heap.size + 1, 0, none⟩ (.slice sl1 rs.length cap1)).setCell ⟨w.heap.size + 1, 1, none⟩ (.slice (some ⟨g9, 0, none⟩) (ps.length + 1) cap9) = w14 at *
                have r0 : w14.cell? ⟨w.heap.size + 1, 0, none⟩ = some (.slice sl1 rs.length cap1) := by rw [(cellsAt MZ2).1]; rfl
                have r1 : w14.cell? ⟨w.heap.size + 1, 1, none⟩ = some (.slice (some ⟨g9, 0, none⟩) (ps.length + 1) cap9) := by rw [(cellsAt MZ2).1]; rfl
                go_wp2
                exact bodyPost_ret (v := .tuple #[.agg #[.slice sl1 rs.length cap1, .slice (some ⟨g9, 0, none⟩) (ps.length + 1) cap9], .bool (B (TabR rs (ps ++ [(a, b, 2)])))]) (by simp [results, Tryd.results10, go_sem, r0, r1]) rfl (by rw [HMs.out]; exact LinePost.of (ok := B (TabR rs (ps ++ [(a, b, 2)]))) (rs := rs) (ps := (ps ++ [(a, b, 2)])) ⟨_, _, rfl, CZ.out, BZ.out.mono hB, keep_below BZ.out⟩ (fun hy => HYes.out (HX.out.1 hxe) hy) (fun hn => HNot.out (fun h2 => by rw [B_yes h2.2] at hn; cases hn)))

              · have hxf : (XB.toList == s.toList) = false := by simpa using hxe
                refine wp_region_held_drew (S := fun W => W.cell? ⟨wr.heap.size, 0, none⟩ = some (.slice sl1 rs.length cap1) ∧ W.cell? ⟨wr.heap.size, 1, none⟩ = some (.slice (some ⟨g9, 0, none⟩) (ps.length + 1) cap9) ∧ W.cell? ⟨wr.heap.size + 1, 0, none⟩ = some (.int .i64 a) ∧ W.cell? ⟨wr.heap.size + 1, 1, none⟩ = some (.int .i64 b) ∧ W.cell? ⟨wr.heap.size + 1, 2, none⟩ = some (.int .i64 2)) (by kernel_rfl) ?_ (fun hHeld => ?_)
                · exact KZ.out _ ((Below.refl _ _).drew)
                refine wpAnyH_take (i := 0) (oi := _) (v := ?_) rfl (by kernel_rfl) (by kernel_rfl) (by kernel_rfl) (fun _ _ _ h => h) (Or.inl ⟨by rfl, ?_⟩) (by assumption) ?_
                rotate_left
                · first | (intro w hSw; (try dsimp only at hSw); go_simp; done) | (intro w hSw; (try dsimp only at hSw); go_simp; with_reducible rfl)
                try simp only [Act.put, List.setIfInBounds_toArray, List.set_cons_zero, List.set_cons_succ, List.getElem_toArray, List.getElem_cons_zero]
                refine wpAnyH_take (i := 1) (oi := _) (v := ?_) rfl (by kernel_rfl) (by kernel_rfl) (by kernel_rfl) (fun _ _ _ h => h) (Or.inl ⟨by rfl, ?_⟩) (by assumption) ?_
                rotate_left
                · first | (intro w hSw; (try dsimp only at hSw); go_simp; done) | (intro w hSw; (try dsimp only at hSw); go_simp; with_reducible rfl)
                try simp only [Act.put, List.setIfInBounds_toArray, List.set_cons_zero, List.set_cons_succ, List.getElem_toArray, List.getElem_cons_succ, List.getElem_cons_zero]
                refine wpAnyH_take (i := 3) (oi := _) (v := ?_) rfl (by kernel_rfl) (by kernel_rfl) (by kernel_rfl) (fun _ _ _ h => h) (Or.inl ⟨by rfl, ?_⟩) (by assumption) ?_
                rotate_left
                · first | (intro w hSw; (try dsimp only at hSw); go_simp; done) | (intro w hSw; (try dsimp only at hSw); go_simp; with_reducible rfl)
                try simp only [Act.put, List.setIfInBounds_toArray, List.set_cons_zero, List.set_cons_succ, List.getElem_toArray, List.getElem_cons_succ, List.getElem_cons_zero]
                refine wpAnyH_ready (rs := [2]) (by kernel_rfl) (by simp) ?_
                refine AllReadyH.cons rfl (fun K hK => ?_) AllReadyH.nil
                go_simp
                go_wp2_with (go_at_call 19; refine (TS.out _ ((Below.refl _ _).drew)).mono ?_; rintro e w11 ⟨rfl, b11⟩; have B11 := Lib.hid (((Below.refl W2.heap.size W2).drew).trans b11); clear b11; have c11 := cellsAt ((B11.out.block (w.heap.size + 1) hn1).trans MR2.out))
                refine hK.out _ _ ?_ (fun hHeld => ?_)
                · exact KZ.out _ B11.out
                clear hK K
                refine wpAnyH_take (i := 4) (oi := _) (v := ?_) rfl (by kernel_rfl) (by kernel_rfl) (by kernel_rfl) (fun _ _ _ h => h) (Or.inl ⟨by rfl, ?_⟩) (by assumption) ?_
                rotate_left
                · first | (intro w hSw; (try dsimp only at hSw); go_simp; done) | (intro w hSw; (try dsimp only at hSw); go_simp; with_reducible rfl)
                try simp only [Act.put, List.setIfInBounds_toArray, List.set_cons_zero, List.set_cons_succ, List.getElem_toArray, List.getElem_cons_succ, List.getElem_cons_zero]
                refine wpAnyH_take (i := 5) (oi := _) (v := ?_) rfl (by kernel_rfl) (by kernel_rfl) (by kernel_rfl) (fun _ _ _ h => h) (Or.inl ⟨by rfl, ?_⟩) (by assumption) ?_
                rotate_left
                · first | (intro w hSw; (try dsimp only at hSw); go_simp; done) | (intro w hSw; (try dsimp only at hSw); go_simp; with_reducible rfl)
                try simp only [Act.put, List.setIfInBounds_toArray, List.set_cons_zero, List.set_cons_succ, List.getElem_toArray, List.getElem_cons_succ, List.getElem_cons_zero]
                refine wpAnyH_take (i := 6) (oi := _) (v := undef) rfl (by kernel_rfl) (by kernel_rfl) (by kernel_rfl) (fun _ _ _ h => h) (Or.inr ⟨by rfl, rfl⟩) (by assumption) ?_
                try simp only [Act.put, List.setIfInBounds_toArray, List.set_cons_zero, List.set_cons_succ, List.getElem_toArray, List.getElem_cons_succ, List.getElem_cons_zero]
                refine wpAnyH_take (i := 7) (oi := _) (v := undef) rfl (by kernel_rfl) (by kernel_rfl) (by kernel_rfl) (fun _ _ _ h => h) (Or.inr ⟨by rfl, rfl⟩) (by assumption) ?_
                try simp only [Act.put, List.setIfInBounds_toArray, List.set_cons_zero, List.set_cons_succ, List.getElem_toArray, List.getElem_cons_succ, List.getElem_cons_zero]
                refine wpAnyH_take (i := 8) (oi := _) (v := ?_) rfl (by kernel_rfl) (by kernel_rfl) (by kernel_rfl) (fun _ _ _ h => h) (Or.inl ⟨by rfl, ?_⟩) (by assumption) ?_
                rotate_left
                · first | (intro w hSw; (try dsimp only at hSw); go_simp; done) | (intro w hSw; (try dsimp only at hSw); go_simp; with_reducible rfl)
                try simp only [Act.put, List.setIfInBounds_toArray, List.set_cons_zero, List.set_cons_succ, List.getElem_toArray, List.getElem_cons_succ, List.getElem_cons_zero]
                refine wpAnyH_ready (rs := [9]) (by kernel_rfl) (by simp) ?_
                refine AllReadyH.cons rfl (fun K hK => ?_) AllReadyH.nil
                go_simp
                go_wp2
                refine hK.out _ _ ?_ (fun hHeld => ?_)
                · exact (fun hX => ⟨(set2_cell _ _ _ _ _ _ (by omega)).trans hX.1, (set2_cell _ _ _ _ _ _ (by omega)).trans hX.2.1, (set2_cell _ _ _ _ _ _ (by omega)).trans hX.2.2.1, (set2_cell _ _ _ _ _ _ (by omega)).trans hX.2.2.2.1, (set2_cell _ _ _ _ _ _ (by omega)).trans hX.2.2.2.2⟩) (KZ.out _ B11.out)
                clear hK K
                refine wpAnyH_take (i := 10) (oi := _) (v := ?_) rfl (by kernel_rfl) (by kernel_rfl) (by kernel_rfl) (fun _ _ _ h => h) (Or.inl ⟨by rfl, ?_⟩) (by assumption) ?_
                rotate_left
                · first | (intro w hSw; (try dsimp only at hSw); go_simp; done) | (intro w hSw; (try dsimp only at hSw); go_simp; with_reducible rfl)
                try simp only [Act.put, List.setIfInBounds_toArray, List.set_cons_zero, List.set_cons_succ, List.getElem_toArray, List.getElem_cons_succ, List.getElem_cons_zero]
                refine wpAnyH_done (by kernel_rfl) ?_ _
                have MZ0 := (B11.out.block (w.heap.size + 1) hn1).trans MR2.out
                have MZ1 := heap_setCell_same w11 (w.heap.size + 1) 0 _ 25 (.slice sl1 rs.length cap1) MZ0
                have MZ2 := heap_setCell_same _ (w.heap.size + 1) 1 _ 25 (.slice (some ⟨g9, 0, none⟩) (ps.length + 1) cap9) MZ1
                have CZ := Lib.hid (((CO.out.below B11.out).keptB MZ0 (grown_set w11 (w.heap.size + 1) 0 (.slice sl1 rs.length cap1))).keptB MZ1 (grown_set _ (w.heap.size + 1) 1 (.slice (some ⟨g9, 0, none⟩) (ps.length + 1) cap9)))
                have BZ := Lib.hid (((bT BT2.out B11.out).setCell (p := ⟨w.heap.size + 1, 0, none⟩) (by show w.heap.size ≤ w.heap.size + 1; omega) (.slice sl1 rs.length cap1)).setCell (p := ⟨w.heap.size + 1, 1, none⟩) (by show w.heap.size ≤ w.heap.size + 1; omega) (.slice (some ⟨g9, 0, none⟩) (ps.length + 1) cap9))
                generalize (w11.setCell ⟨w.heap.size + 1, 0, none⟩ (.slice sl1 rs.length cap1)).setCell ⟨w.heap.size + 1, 1, none⟩ (.slice (some ⟨g9, 0, none⟩) (ps.length + 1) cap9) = w14 at *
                have r0 : w14.cell? ⟨w.heap.size + 1, 0, none⟩ = some (.slice sl1 rs.length cap1) := by rw [(cellsAt MZ2).1]; rfl
                have r1 : w14.cell? ⟨w.heap.size + 1, 1, none⟩ = some (.slice (some ⟨g9, 0, none⟩) (ps.length + 1) cap9) := by rw [(cellsAt MZ2).1]; rfl
                go_wp2
                exact bodyPost_ret (v := .tuple #[.agg #[.slice sl1 rs.length cap1, .slice (some ⟨g9, 0, none⟩) (ps.length + 1) cap9], .bool false]) (by simp [results, Tryd.results10, go_sem, r0, r1]) rfl (by rw [HMs.out]; exact LinePost.of (ok := false) (rs := rs) (ps := (ps ++ [(a, b, 2)])) ⟨_, _, rfl, CZ.out, BZ.out.mono hB, keep_below BZ.out⟩ (fun hy => by cases hy) (fun _ => HNot.out (fun h2 => hxe (HX.out.2 h2.1))))
    · go_simp
      go_wp2
      refine hK.out _ _ ?_ (fun hHeld => ?_)
      · exact KS.out _ (BD.out.alloc BD.out.size _)
      clear hK K hHeld
      have BX10 := Lib.hid (BD.out.alloc BD.out.size (.cells #[.int .i64 a, .int .i64 b, .int .i64 2] 47))
      have SC10 := Lib.hid (cell_three_new wd (.int .i64 a) (.int .i64 b) (.int .i64 2) 47)
      have hl10 : wd.heap.size < (wd.alloc (.cells #[.int .i64 a, .int .i64 b, .int .i64 2] 47)).heap.size := by simp
      have hm10 := BD.out.size
      generalize wd.alloc (.cells #[.int .i64 a, .int .i64 b, .int .i64 2] 47) = w10_ at *
      generalize wd.heap.size = bk10 at *
      have hs10 := hl10
      refine wpAnyH_ready (rs := [0]) (by kernel_rfl) (by simp) ?_
      refine (AllReadyH.cons rfl (fun K hK => ?_) AllReadyH.nil)
      · go_simp
        go_wp2
        refine hK.out _ _ ?_ (fun hHeld => ?_)
        · exact KS.out _ (BX10.out.alloc BX10.out.size _)
        clear hK K hHeld
        have BX11 := Lib.hid (BX10.out.alloc BX10.out.size (.cells #[] 47))
        have OX11 := Lib.hid (own_mono (own_lit0 w10_ 47 3) BX10.out.size)
        have SC11 := Lib.hid (sc_below SC10.out hs10 ((bA0 w10_ (.cells #[] 47)).block bk10 hs10))
        have hl11 : w10_.heap.size < (w10_.alloc (.cells #[] 47)).heap.size := by simp
        have hm11 := BX10.out.size
        have hs11 := Nat.lt_trans hs10 hl11
        generalize w10_.alloc (.cells #[] 47) = w11_ at *
        generalize w10_.heap.size = bk11 at *
        have hb11 := hl11
        refine wpAnyH_ready (rs := [3]) (by kernel_rfl) (by simp) ?_
        refine (AllReadyH.cons rfl (fun K hK => ?_) AllReadyH.nil)
        · refine step_append_own rfl (.tmp 108) (.tmp 110) 23 47 rfl iS (.agg #[.int .i64 0, .int .i64 0, .int .i64 0]) 3 24 Tryd.underlying23 hiS hzS0 hzS1 hzS2 rfl (by decide) (by decide) W1.heap.size bk11 (by simp [Act.eval, Act.put]) OX11.out C (.slice sl2 ps.length cap2) ps.length (prC ps) (by simp [Act.eval, Act.put]) ((OT1.out.below (BX11.out)).r2) (prC_one ps) (by omega) BX11.out.size ?_
          intro x12_ y12_ w12_ on12 gn12
          have BX12 := Lib.hid (BX11.out.grown gn12 BX11.out.size (fun k hk => by cases hk; exact (World.ownsRow.lt OX11.out bk11 rfl).1))
          refine hK.out _ _ ?_ (fun hHeld => ?_)
          · exact KS.out _ BX12.out
          clear hK K hHeld
          have OX12 := Lib.hid on12
          have hne12 : bk10 ≠ bk11 := by omega
          have SC12 := Lib.hid (sc_below SC11.out hs11 (gn12.block bk10 hs11 (fun e => hne12 (Option.some.inj e))))
          have hs12 := Nat.lt_of_lt_of_le hs11 gn12.size
          clear on12 gn12
          refine wpAnyH_ready (rs := [6]) (by kernel_rfl) (by simp) ?_
          refine (AllReadyH.cons rfl (fun K hK => ?_) AllReadyH.nil)
          · refine step_append_lies _ rfl (.tmp 111) (.tmp 113) 23 rfl W1.heap.size 47 iS _ 3 24 Tryd.underlying23 hiS hzS0 hzS1 hzS2 rfl (by decide) (.slice x12_ ps.length y12_) ps.length (prC ps) (by simp [Act.eval, Act.put]) OX12.out ⟨bk10, 0, none⟩ 1 1 [.int .i64 a, .int .i64 b, .int .i64 2] (by simp [Act.eval, Act.put]) rfl SC12.out (by simp [Value.oneCell']) (by decide) (by unfold maxLen; omega) (by omega) BX12.out.size _ rfl ?_
            intro g9 cap9 w13_ on13 gn13 hg13 hlt13
            have BX13 := Lib.hid (BX12.out.grown gn13 BX12.out.size (fun k hk => (World.ownsRow.lt OX12.out k hk).1))
            refine hK.out _ _ ?_ (fun hHeld => ?_)
            · exact KS.out _ BX13.out
            clear hK K hHeld
            have OX13 := Lib.hid on13
            clear on13 gn13 hg13 hlt13
            try simp only [Act.put, List.setIfInBounds_toArray, List.set_cons_zero, List.set_cons_succ, List.getElem_toArray, List.getElem_cons_succ, List.getElem_cons_zero]
            have hHeld := KS.out _ BX13.out
            refine wpAnyH_take (i := 7) (oi := _) (v := ?_) rfl (by kernel_rfl) (by kernel_rfl) (by kernel_rfl) (fun _ _ _ h => h) (Or.inl ⟨by rfl, ?_⟩) (by assumption) ?_
            rotate_left
            · first | (intro w hSw; (try dsimp only at hSw); go_simp; done) | (intro w hSw; (try dsimp only at hSw); go_simp; with_reducible rfl)
            try simp only [Act.put, List.setIfInBounds_toArray, List.set_cons_zero, List.set_cons_succ, List.getElem_toArray, List.getElem_cons_succ, List.getElem_cons_zero]
            clear hHeld
            refine wpAnyH_ready (rs := [8]) (by kernel_rfl) (by simp) ?_
            refine (AllReadyH.cons rfl (fun K hK => ?_) AllReadyH.nil)
            · have cO14 := cellsAt ((BX13.out.block wr.heap.size hobl).trans MO1.out)
              go_simp
              go_wp2
              refine hK.out _ _ ?_ (fun hHeld => ?_)
              · exact ⟨(World.cell?_of_block (Below.heap_setCell _ _ _ _ (by show w.heap.size ≠ wr.heap.size; omega))).trans (KS.out _ BX13.out).1, (World.cell?_of_block (Below.heap_setCell _ _ _ _ (by show wr.heap.size + 1 ≠ wr.heap.size; omega))).trans (KS.out _ BX13.out).2.1, (World.cell?_of_block (Below.heap_setCell _ _ _ _ (by show wr.heap.size + 1 ≠ wr.heap.size; omega))).trans (KS.out _ BX13.out).2.2.1, (World.cell?_of_block (Below.heap_setCell _ _ _ _ (by show wr.heap.size + 1 ≠ wr.heap.size; omega))).trans (KS.out _ BX13.out).2.2.2⟩
              clear hK K hHeld cO14
              refine wpAnyH_done (by kernel_rfl) ?_ _
              have MO2 := Lib.hid (heap_setCell_same w13_ wr.heap.size 1 _ 25 (.slice (some ⟨g9, 0, none⟩) (ps.length + 1) cap9) ((BX13.out.block wr.heap.size hobl).trans MO1.out))
              have MR2 := Lib.hid ((Below.heap_setCell w13_ ⟨wr.heap.size, 1, none⟩ (.slice (some ⟨g9, 0, none⟩) (ps.length + 1) cap9) (w.heap.size + 1) (by show w.heap.size + 1 ≠ wr.heap.size; omega)).trans ((BX13.out.block (w.heap.size + 1) hn1l).trans MR1.out))
              have MS2 := Lib.hid ((Below.heap_setCell w13_ ⟨wr.heap.size, 1, none⟩ (.slice (some ⟨g9, 0, none⟩) (ps.length + 1) cap9) (wr.heap.size + 1) (by show wr.heap.size + 1 ≠ wr.heap.size; omega)).trans ((BX13.out.block (wr.heap.size + 1) hsbl).trans MS1.out))
              have MOb := Lib.hid ((BX13.out.block wr.heap.size hobl).trans MO1.out)
              have CO : Hid (OwT (w13_.setCell ⟨wr.heap.size, 1, none⟩ (.slice (some ⟨g9, 0, none⟩) (ps.length + 1) cap9)) C (.slice sl1 rs.length cap1) (.slice (some ⟨g9, 0, none⟩) (ps.length + 1) cap9) rs (ps ++ [(a, b, 2)])) := by
                have oo := OT1.out.below BX13.out
                have gs := grown_set w13_ wr.heap.size 1 (.slice (some ⟨g9, 0, none⟩) (ps.length + 1) cap9)
                refine ⟨own_keptB oo.r1 MOb.out (by decide) gs, ?_, fun r hr => (oo.dom r hr).keptB MOb.out (by decide) gs, oo.diff⟩
                have := own_keptB (own_mono OX13.out hC1) MOb.out (by decide) gs
                rw [List.length_append, prC_add]
                exact this
              have BT2 := Lib.hid ((bT BN1.out BX13.out).setCell (p := ⟨wr.heap.size, 1, none⟩) (by show w.heap.size ≤ wr.heap.size; omega) (.slice (some ⟨g9, 0, none⟩) (ps.length + 1) cap9))
              have hn1 : w.heap.size + 1 < (w13_.setCell ⟨wr.heap.size, 1, none⟩ (.slice (some ⟨g9, 0, none⟩) (ps.length + 1) cap9)).heap.size := (Array.getElem?_eq_some_iff.1 MR2.out).1
              have hl0 : wr.heap.size < (w13_.setCell ⟨wr.heap.size, 1, none⟩ (.slice (some ⟨g9, 0, none⟩) (ps.length + 1) cap9)).heap.size := (Array.getElem?_eq_some_iff.1 MO2.out).1
              have hl1 : wr.heap.size + 1 < (w13_.setCell ⟨wr.heap.size, 1, none⟩ (.slice (some ⟨g9, 0, none⟩) (ps.length + 1) cap9)).heap.size := (Array.getElem?_eq_some_iff.1 MS2.out).1
              generalize w13_.setCell ⟨wr.heap.size, 1, none⟩ (.slice (some ⟨g9, 0, none⟩) (ps.length + 1) cap9) = W2 at *
              have KZ : Hid (∀ W, Below W2.heap.size W2 W → W.cell? ⟨wr.heap.size, 0, none⟩ = some (.slice sl1 rs.length cap1) ∧ W.cell? ⟨wr.heap.size, 1, none⟩ = some (.slice (some ⟨g9, 0, none⟩) (ps.length + 1) cap9) ∧ W.cell? ⟨wr.heap.size + 1, 0, none⟩ = some (.int .i64 a) ∧ W.cell? ⟨wr.heap.size + 1, 1, none⟩ = some (.int .i64 b) ∧ W.cell? ⟨wr.heap.size + 1, 2, none⟩ = some (.int .i64 2)) := fun W hW => ⟨(hW.cell hl0).trans (by rw [(cellsAt MO2.out).1]; rfl), (hW.cell hl0).trans (by rw [(cellsAt MO2.out).1]; rfl), (hW.cell hl1).trans (by rw [(cellsAt MS2.out).1]; rfl), (hW.cell hl1).trans (by rw [(cellsAt MS2.out).1]; rfl), (hW.cell hl1).trans (by rw [(cellsAt MS2.out).1]; rfl)⟩
              have TC : Hid (∀ W, Below W2.heap.size W2 W → Calls Tryd.prog 18 #[.agg #[.slice sl1 rs.length cap1, .slice (some ⟨g9, 0, none⟩) (ps.length + 1) cap9]] W fun e w' => e = .returned (.bool (B (TabR rs (ps ++ [(a, b, 2)])))) ∧ Below W.heap.size W w') := fun W hW => by
                have hC := CO.out.below hW
                obtain ⟨s1, k1, ev, hst⟩ := own_st hC
                obtain ⟨s2, k2, ev2, hpr⟩ := own_pr hC
                have := str_any s1 k1 s2 k2 _ _ W hst hpr
                rw [ev, ev2]
                exact this
              have TS : Hid (∀ W, Below W2.heap.size W2 W → Calls Tryd.prog 19 #[.agg #[.int .i64 a, .int .i64 b, .int .i64 2]] W fun e w' => e = .returned (.string ⟨(pairB (a, b, 2)).toArray⟩) ∧ Below W.heap.size W w') := fun W hW => pt_any a b 2 W hab.out.1 hab.out.2
              have HX : Hid ((((⟨(pairB (a, b, 2)).toArray⟩ : ByteArray).toList == s.toList) = true) ↔ besW ++ numsT z = s.data.toList) := by
                show _ ↔ _
                rw [beq_iff_eq, Go.ByteArray.toList_eq, Go.ByteArray.toList_eq, HZZ.out, ← pair_words a b 2 besW (by first | exact .inl rfl | exact .inr rfl) (by decide)]
              generalize hXB : (⟨(pairB (a, b, 2)).toArray⟩ : ByteArray) = XB at *
              clear hXB
              go_wp2_with fail
              by_cases hxe : (XB.toList == s.toList) = true
              · refine wp_region_held_drew (S := fun W => W.cell? ⟨wr.heap.size, 0, none⟩ = some (.slice sl1 rs.length cap1) ∧ W.cell? ⟨wr.heap.size, 1, none⟩ = some (.slice (some ⟨g9, 0, none⟩) (ps.length + 1) cap9) ∧ W.cell? ⟨wr.heap.size + 1, 0, none⟩ = some (.int .i64 a) ∧ W.cell? ⟨wr.heap.size + 1, 1, none⟩ = some (.int .i64 b) ∧ W.cell? ⟨wr.heap.size + 1, 2, none⟩ = some (.int .i64 2)) (by kernel_rfl) ?_ (fun hHeld => ?_)
                · exact KZ.out _ ((Below.refl _ _).drew)
                refine wpAnyH_take (i := 0) (oi := _) (v := ?_) rfl (by kernel_rfl) (by kernel_rfl) (by kernel_rfl) (fun _ _ _ h => h) (Or.inl ⟨by rfl, ?_⟩) (by assumption) ?_
                rotate_left
                · first | (intro w hSw; (try dsimp only at hSw); go_simp; done) | (intro w hSw; (try dsimp only at hSw); go_simp; with_reducible rfl)
                try simp only [Act.put, List.setIfInBounds_toArray, List.set_cons_zero, List.set_cons_succ, List.getElem_toArray, List.getElem_cons_zero]
                refine wpAnyH_take (i := 1) (oi := _) (v := ?_) rfl (by kernel_rfl) (by kernel_rfl) (by kernel_rfl) (fun _ _ _ h => h) (Or.inl ⟨by rfl, ?_⟩) (by assumption) ?_
                rotate_left
                · first | (intro w hSw; (try dsimp only at hSw); go_simp; done) | (intro w hSw; (try dsimp only at hSw); go_simp; with_reducible rfl)
                try simp only [Act.put, List.setIfInBounds_toArray, List.set_cons_zero, List.set_cons_succ, List.getElem_toArray, List.getElem_cons_succ, List.getElem_cons_zero]
                refine wpAnyH_take (i := 3) (oi := _) (v := ?_) rfl (by kernel_rfl) (by kernel_rfl) (by kernel_rfl) (fun _ _ _ h => h) (Or.inl ⟨by rfl, ?_⟩) (by assumption) ?_
                rotate_left
                · first | (intro w hSw; (try dsimp only at hSw); go_simp; done) | (intro w hSw; (try dsimp only at hSw); go_simp; with_reducible rfl)
                try simp only [Act.put, List.setIfInBounds_toArray, List.set_cons_zero, List.set_cons_succ, List.getElem_toArray, List.getElem_cons_succ, List.getElem_cons_zero]
                refine wpAnyH_ready (rs := [2]) (by kernel_rfl) (by simp) ?_
                refine AllReadyH.cons rfl (fun K hK => ?_) AllReadyH.nil
                go_simp
                go_wp2_with (go_at_call 19; refine (TS.out _ ((Below.refl _ _).drew)).mono ?_; rintro e w11 ⟨rfl, b11⟩; have B11 := Lib.hid (((Below.refl W2.heap.size W2).drew).trans b11); clear b11)
                refine hK.out _ _ ?_ (fun hHeld => ?_)
                · exact KZ.out _ B11.out
                clear hK K
                refine wpAnyH_take (i := 4) (oi := _) (v := ?_) rfl (by kernel_rfl) (by kernel_rfl) (by kernel_rfl) (fun _ _ _ h => h) (Or.inl ⟨by rfl, ?_⟩) (by assumption) ?_
                rotate_left
                · first | (intro w hSw; (try dsimp only at hSw); go_simp; done) | (intro w hSw; (try dsimp only at hSw); go_simp; with_reducible rfl)
                try simp only [Act.put, List.setIfInBounds_toArray, List.set_cons_zero, List.set_cons_succ, List.getElem_toArray, List.getElem_cons_succ, List.getElem_cons_zero]
                refine wpAnyH_take (i := 5) (oi := _) (v := ?_) rfl (by kernel_rfl) (by kernel_rfl) (by kernel_rfl) (fun _ _ _ h => h) (Or.inl ⟨by rfl, ?_⟩) (by assumption) ?_
                rotate_left
                · first | (intro w hSw; (try dsimp only at hSw); go_simp; done) | (intro w hSw; (try dsimp only at hSw); go_simp; with_reducible rfl)
                try simp only [Act.put, List.setIfInBounds_toArray, List.set_cons_zero, List.set_cons_succ, List.getElem_toArray, List.getElem_cons_succ, List.getElem_cons_zero]
                refine wpAnyH_take (i := 6) (oi := _) (v := ?_) rfl (by kernel_rfl) (by kernel_rfl) (by kernel_rfl) (fun _ _ _ h => h) (Or.inl ⟨by rfl, ?_⟩) (by assumption) ?_
                rotate_left
                · first | (intro w hSw; (try dsimp only at hSw); go_simp; done) | (intro w hSw; (try dsimp only at hSw); go_simp; with_reducible rfl)
                try simp only [Act.put, List.setIfInBounds_toArray, List.set_cons_zero, List.set_cons_succ, List.getElem_toArray, List.getElem_cons_succ, List.getElem_cons_zero]
                refine wpAnyH_ready (rs := [7]) (by kernel_rfl) (by simp) ?_
                refine AllReadyH.cons rfl (fun K hK => ?_) AllReadyH.nil
                go_simp
                go_wp2_with (go_at_call 18; refine (TC.out _ B11.out).mono ?_; rintro e w12 ⟨rfl, b12⟩; have B12 := Lib.hid (bT B11.out b12); have c12 := cellsAt ((B12.out.block (w.heap.size + 1) hn1).trans MR2.out); clear b12)
                refine hK.out _ _ ?_ (fun hHeld => ?_)
                · exact KZ.out _ B12.out
                clear hK K
                refine wpAnyH_take (i := 8) (oi := _) (v := ?_) rfl (by kernel_rfl) (by kernel_rfl) (by kernel_rfl) (fun _ _ _ h => h) (Or.inl ⟨by rfl, ?_⟩) (by assumption) ?_
                rotate_left
                · first | (intro w hSw; (try dsimp only at hSw); go_simp; done) | (intro w hSw; (try dsimp only at hSw); go_simp; with_reducible rfl)
                try simp only [Act.put, List.setIfInBounds_toArray, List.set_cons_zero, List.set_cons_succ, List.getElem_toArray, List.getElem_cons_succ, List.getElem_cons_zero]
                refine wpAnyH_ready (rs := [9]) (by kernel_rfl) (by simp) ?_
                refine AllReadyH.cons rfl (fun K hK => ?_) AllReadyH.nil
                go_simp
                go_wp2
                refine hK.out _ _ ?_ (fun hHeld => ?_)
                · exact (fun hX => ⟨(set2_cell _ _ _ _ _ _ (by omega)).trans hX.1, (set2_cell _ _ _ _ _ _ (by omega)).trans hX.2.1, (set2_cell _ _ _ _ _ _ (by omega)).trans hX.2.2.1, (set2_cell _ _ _ _ _ _ (by omega)).trans hX.2.2.2.1, (set2_cell _ _ _ _ _ _ (by omega)).trans hX.2.2.2.2⟩) (KZ.out _ B12.out)
                clear hK K
                refine wpAnyH_take (i := 10) (oi := _) (v := ?_) rfl (by kernel_rfl) (by kernel_rfl) (by kernel_rfl) (fun _ _ _ h => h) (Or.inl ⟨by rfl, ?_⟩) (by assumption) ?_
                rotate_left
                · first | (intro w hSw; (try dsimp only at hSw); go_simp; done) | (intro w hSw; (try dsimp only at hSw); go_simp; with_reducible rfl)
                try simp only [Act.put, List.setIfInBounds_toArray, List.set_cons_zero, List.set_cons_succ, List.getElem_toArray, List.getElem_cons_succ, List.getElem_cons_zero]
                refine wpAnyH_done (by kernel_rfl) ?_ _
                have MZ0 := (B12.out.block (w.heap.size + 1) hn1).trans MR2.out
                have MZ1 := heap_setCell_same w12 (w.heap.size + 1) 0 _ 25 (.slice sl1 rs.length cap1) MZ0
                have MZ2 := heap_setCell_same _ (w.heap.size + 1) 1 _ 25 (.slice (some ⟨g9, 0, none⟩) (ps.length + 1) cap9) MZ1
                have CZ := Lib.hid (((CO.out.below B12.out).keptB MZ0 (grown_set w12 (w.heap.size + 1) 0 (.slice sl1 rs.length cap1))).keptB MZ1 (grown_set _ (w.heap.size + 1) 1 (.slice (some ⟨g9, 0, none⟩) (ps.length + 1) cap9)))
                have BZ := Lib.hid (((bT BT2.out B12.out).setCell (p := ⟨w.heap.size + 1, 0, none⟩) (by show w.heap.size ≤ w.heap.size + 1; omega) (.slice sl1 rs.length cap1)).setCell (p := ⟨w.heap.size + 1, 1, none⟩) (by show w.heap.size ≤ w.heap.size + 1; omega) (.slice (some ⟨g9, 0, none⟩) (ps.length + 1) cap9))
                generalize (w12.setCell ⟨w.heap.size + 1, 0, none⟩ (.slice sl1 rs.length cap1)).setCell ⟨w.heap.size + 1, 1, none⟩ (.slice (some ⟨g9, 0, none⟩) (ps.length + 1) cap9) = w14 at *
                have r0 : w14.cell? ⟨w.heap.size + 1, 0, none⟩ = some (.slice sl1 rs.length cap1) := by rw [(cellsAt MZ2).1]; rfl
                have r1 : w14.cell? ⟨w.heap.size + 1, 1, none⟩ = some (.slice (some ⟨g9, 0, none⟩) (ps.length + 1) cap9) := by rw [(cellsAt MZ2).1]; rfl
                go_wp2
                exact bodyPost_ret (v := .tuple #[.agg #[.slice sl1 rs.length cap1, .slice (some ⟨g9, 0, none⟩) (ps.length + 1) cap9], .bool (B (TabR rs (ps ++ [(a, b, 2)])))]) (by simp [results, Tryd.results10, go_sem, r0, r1]) rfl (by rw [HMs.out]; exact LinePost.of (ok := B (TabR rs (ps ++ [(a, b, 2)]))) (rs := rs) (ps := (ps ++ [(a, b, 2)])) ⟨_, _, rfl, CZ.out, BZ.out.mono hB, keep_below BZ.out⟩ (fun hy => HYes.out (HX.out.1 hxe) hy) (fun hn => HNot.out (fun h2 => by rw [B_yes h2.2] at hn; cases hn)))

              · have hxf : (XB.toList == s.toList) = false := by simpa using hxe
                refine wp_region_held_drew (S := fun W => W.cell? ⟨wr.heap.size, 0, none⟩ = some (.slice sl1 rs.length cap1) ∧ W.cell? ⟨wr.heap.size, 1, none⟩ = some (.slice (some ⟨g9, 0, none⟩) (ps.length + 1) cap9) ∧ W.cell? ⟨wr.heap.size + 1, 0, none⟩ = some (.int .i64 a) ∧ W.cell? ⟨wr.heap.size + 1, 1, none⟩ = some (.int .i64 b) ∧ W.cell? ⟨wr.heap.size + 1, 2, none⟩ = some (.int .i64 2)) (by kernel_rfl) ?_ (fun hHeld => ?_)
                · exact KZ.out _ ((Below.refl _ _).drew)
                refine wpAnyH_take (i := 0) (oi := _) (v := ?_) rfl (by kernel_rfl) (by kernel_rfl) (by kernel_rfl) (fun _ _ _ h => h) (Or.inl ⟨by rfl, ?_⟩) (by assumption) ?_
                rotate_left
                · first | (intro w hSw; (try dsimp only at hSw); go_simp; done) | (intro w hSw; (try dsimp only at hSw); go_simp; with_reducible rfl)
                try simp only [Act.put, List.setIfInBounds_toArray, List.set_cons_zero, List.set_cons_succ, List.getElem_toArray, List.getElem_cons_zero]
                refine wpAnyH_take (i := 1) (oi := _) (v := ?_) rfl (by kernel_rfl) (by kernel_rfl) (by kernel_rfl) (fun _ _ _ h => h) (Or.inl ⟨by rfl, ?_⟩) (by assumption) ?_
                rotate_left
                · first | (intro w hSw; (try dsimp only at hSw); go_simp; done) | (intro w hSw; (try dsimp only at hSw); go_simp; with_reducible rfl)
                try simp only [Act.put, List.setIfInBounds_toArray, List.set_cons_zero, List.set_cons_succ, List.getElem_toArray, List.getElem_cons_succ, List.getElem_cons_zero]
                refine wpAnyH_take (i := 3) (oi := _) (v := ?_) rfl (by kernel_rfl) (by kernel_rfl) (by kernel_rfl) (fun _ _ _ h => h) (Or.inl ⟨by rfl, ?_⟩) (by assumption) ?_
                rotate_left
                · first | (intro w hSw; (try dsimp only at hSw); go_simp; done) | (intro w hSw; (try dsimp only at hSw); go_simp; with_reducible rfl)
                try simp only [Act.put, List.setIfInBounds_toArray, List.set_cons_zero, List.set_cons_succ, List.getElem_toArray, List.getElem_cons_succ, List.getElem_cons_zero]
                refine wpAnyH_ready (rs := [2]) (by kernel_rfl) (by simp) ?_
                refine AllReadyH.cons rfl (fun K hK => ?_) AllReadyH.nil
                go_simp
                go_wp2_with (go_at_call 19; refine (TS.out _ ((Below.refl _ _).drew)).mono ?_; rintro e w11 ⟨rfl, b11⟩; have B11 := Lib.hid (((Below.refl W2.heap.size W2).drew).trans b11); clear b11; have c11 := cellsAt ((B11.out.block (w.heap.size + 1) hn1).trans MR2.out))
                refine hK.out _ _ ?_ (fun hHeld => ?_)
                · exact KZ.out _ B11.out
                clear hK K
                refine wpAnyH_take (i := 4) (oi := _) (v := ?_) rfl (by kernel_rfl) (by kernel_rfl) (by kernel_rfl) (fun _ _ _ h => h) (Or.inl ⟨by rfl, ?_⟩) (by assumption) ?_
                rotate_left
                · first | (intro w hSw; (try dsimp only at hSw); go_simp; done) | (intro w hSw; (try dsimp only at hSw); go_simp; with_reducible rfl)
                try simp only [Act.put, List.setIfInBounds_toArray, List.set_cons_zero, List.set_cons_succ, List.getElem_toArray, List.getElem_cons_succ, List.getElem_cons_zero]
                refine wpAnyH_take (i := 5) (oi := _) (v := ?_) rfl (by kernel_rfl) (by kernel_rfl) (by kernel_rfl) (fun _ _ _ h => h) (Or.inl ⟨by rfl, ?_⟩) (by assumption) ?_
                rotate_left
                · first | (intro w hSw; (try dsimp only at hSw); go_simp; done) | (intro w hSw; (try dsimp only at hSw); go_simp; with_reducible rfl)
                try simp only [Act.put, List.setIfInBounds_toArray, List.set_cons_zero, List.set_cons_succ, List.getElem_toArray, List.getElem_cons_succ, List.getElem_cons_zero]
                refine wpAnyH_take (i := 6) (oi := _) (v := undef) rfl (by kernel_rfl) (by kernel_rfl) (by kernel_rfl) (fun _ _ _ h => h) (Or.inr ⟨by rfl, rfl⟩) (by assumption) ?_
                try simp only [Act.put, List.setIfInBounds_toArray, List.set_cons_zero, List.set_cons_succ, List.getElem_toArray, List.getElem_cons_succ, List.getElem_cons_zero]
                refine wpAnyH_take (i := 7) (oi := _) (v := undef) rfl (by kernel_rfl) (by kernel_rfl) (by kernel_rfl) (fun _ _ _ h => h) (Or.inr ⟨by rfl, rfl⟩) (by assumption) ?_
                try simp only [Act.put, List.setIfInBounds_toArray, List.set_cons_zero, List.set_cons_succ, List.getElem_toArray, List.getElem_cons_succ, List.getElem_cons_zero]
                refine wpAnyH_take (i := 8) (oi := _) (v := ?_) rfl (by kernel_rfl) (by kernel_rfl) (by kernel_rfl) (fun _ _ _ h => h) (Or.inl ⟨by rfl, ?_⟩) (by assumption) ?_
                rotate_left
                · first | (intro w hSw; (try dsimp only at hSw); go_simp; done) | (intro w hSw; (try dsimp only at hSw); go_simp; with_reducible rfl)
                try simp only [Act.put, List.setIfInBounds_toArray, List.set_cons_zero, List.set_cons_succ, List.getElem_toArray, List.getElem_cons_succ, List.getElem_cons_zero]
                refine wpAnyH_ready (rs := [9]) (by kernel_rfl) (by simp) ?_
                refine AllReadyH.cons rfl (fun K hK => ?_) AllReadyH.nil
                go_simp
                go_wp2
                refine hK.out _ _ ?_ (fun hHeld => ?_)
                · exact (fun hX => ⟨(set2_cell _ _ _ _ _ _ (by omega)).trans hX.1, (set2_cell _ _ _ _ _ _ (by omega)).trans hX.2.1, (set2_cell _ _ _ _ _ _ (by omega)).trans hX.2.2.1, (set2_cell _ _ _ _ _ _ (by omega)).trans hX.2.2.2.1, (set2_cell _ _ _ _ _ _ (by omega)).trans hX.2.2.2.2⟩) (KZ.out _ B11.out)
                clear hK K
                refine wpAnyH_take (i := 10) (oi := _) (v := ?_) rfl (by kernel_rfl) (by kernel_rfl) (by kernel_rfl) (fun _ _ _ h => h) (Or.inl ⟨by rfl, ?_⟩) (by assumption) ?_
                rotate_left
                · first | (intro w hSw; (try dsimp only at hSw); go_simp; done) | (intro w hSw; (try dsimp only at hSw); go_simp; with_reducible rfl)
                try simp only [Act.put, List.setIfInBounds_toArray, List.set_cons_zero, List.set_cons_succ, List.getElem_toArray, List.getElem_cons_succ, List.getElem_cons_zero]
                refine wpAnyH_done (by kernel_rfl) ?_ _
                have MZ0 := (B11.out.block (w.heap.size + 1) hn1).trans MR2.out
                have MZ1 := heap_setCell_same w11 (w.heap.size + 1) 0 _ 25 (.slice sl1 rs.length cap1) MZ0
                have MZ2 := heap_setCell_same _ (w.heap.size + 1) 1 _ 25 (.slice (some ⟨g9, 0, none⟩) (ps.length + 1) cap9) MZ1
                have CZ := Lib.hid (((CO.out.below B11.out).keptB MZ0 (grown_set w11 (w.heap.size + 1) 0 (.slice sl1 rs.length cap1))).keptB MZ1 (grown_set _ (w.heap.size + 1) 1 (.slice (some ⟨g9, 0, none⟩) (ps.length + 1) cap9)))
                have BZ := Lib.hid (((bT BT2.out B11.out).setCell (p := ⟨w.heap.size + 1, 0, none⟩) (by show w.heap.size ≤ w.heap.size + 1; omega) (.slice sl1 rs.length cap1)).setCell (p := ⟨w.heap.size + 1, 1, none⟩) (by show w.heap.size ≤ w.heap.size + 1; omega) (.slice (some ⟨g9, 0, none⟩) (ps.length + 1) cap9))
                generalize (w11.setCell ⟨w.heap.size + 1, 0, none⟩ (.slice sl1 rs.length cap1)).setCell ⟨w.heap.size + 1, 1, none⟩ (.slice (some ⟨g9, 0, none⟩) (ps.length + 1) cap9) = w14 at *
                have r0 : w14.cell? ⟨w.heap.size + 1, 0, none⟩ = some (.slice sl1 rs.length cap1) := by rw [(cellsAt MZ2).1]; rfl
                have r1 : w14.cell? ⟨w.heap.size + 1, 1, none⟩ = some (.slice (some ⟨g9, 0, none⟩) (ps.length + 1) cap9) := by rw [(cellsAt MZ2).1]; rfl
                go_wp2
                exact bodyPost_ret (v := .tuple #[.agg #[.slice sl1 rs.length cap1, .slice (some ⟨g9, 0, none⟩) (ps.length + 1) cap9], .bool false]) (by simp [results, Tryd.results10, go_sem, r0, r1]) rfl (by rw [HMs.out]; exact LinePost.of (ok := false) (rs := rs) (ps := (ps ++ [(a, b, 2)])) ⟨_, _, rfl, CZ.out, BZ.out.mono hB, keep_below BZ.out⟩ (fun hy => by cases hy) (fun _ => HNot.out (fun h2 => hxe (HX.out.2 h2.1))))
  clear hKT
  go_loopw [7, 8] (fun nv iv wr => ∃ (k : Nat), iv = .int .i64 ((k : Int) + 1) ∧ k ≤ 19 ∧ k ≤ ps'.length ∧ Hid (wr.ownsRow w1.heap.size 2 1 nv k (valsZ ((ps'.take k).map numV))) ∧ Hid (Below w1.heap.size w1 wr)) (fun _ iv _ => 20 - (intOf iv).toNat)
  case atStart => exact ⟨0, rfl, Nat.zero_le _, Nat.zero_le _, O2.out, B2.out⟩
  case round =>
    obtain ⟨k, rfl, hk19, hkp, O3, B3⟩ := hrel
    have hk0 : (0 : Int) ≤ (k : Int) := by omega
    have c0 := cellsAt ((B3.out.block w.heap.size (by omega)).trans M01.out)
    have c1 := cellsAt ((B3.out.block (w.heap.size + 1) (by omega)).trans M11.out)
    by_cases h1 : k < ps'.length
    · have h1' : (k : Int) + 1 < (ps'.length : Int) + 1 := by omega
      by_cases h2 : k < 19
      · have h2' : (k : Int) + 1 < 20 := by omega
        obtain ⟨x, hx⟩ : ∃ x, ps'[k]? = some x := ⟨_, List.getElem?_eq_getElem h1⟩
        have q1 := (B3.out.cell gl).trans (GC.out (k + 1) x (by rw [List.getElem?_cons_succ]; exact hx))
        unfold strV at q1
        have NM : Hid (Calls Tryd.prog 16 #[.string ⟨x.toArray⟩] wr fun e w' => e = .returned (.tuple #[.int .i64 (numV x), .bool (numK x)]) ∧ Below wr.heap.size wr w') := by
          have := num_any ⟨x.toArray⟩ (by have := hsmall.out x (List.mem_cons_of_mem _ (List.mem_of_getElem? hx)); simp [ByteArray.size]; omega) wr
          show Calls _ _ _ _ _
          simpa using this
        have HX := Lib.hid hx
        obtain ⟨sl7, m7, c7, e7⟩ := IsSl.own O3.out
        subst e7
        clear hx O2 B2 c0 c1
        go_wp2_with fail
        refine NM.out.mono ?_
        rintro e w4 ⟨rfl, b4⟩
        have O4 := Lib.hid (own_below O3.out b4)
        have B4 := Lib.hid (bT B3.out b4)
        clear b4 q1 NM O3 B3
        have hcn := Lib.hid (cell_one_new w4 (.int .i64 (numV x)) 2)
        go_wp2_with (at_builtin; refine wpList_append_lies _ rfl _ _ 39 rfl w1.heap.size 2 i0 (.int .i64 0) 1 8 Tryd.underlying39 hi0 hz0 hz1 hz2 rfl (by decide) (.slice sl7 m7 c7) k (valsZ ((ps'.take k).map numV)) rfl (O4.out.alloc _) ⟨w4.heap.size, 0, none⟩ 1 1 [.int .i64 (numV x)] rfl rfl (cell_one_new _ _ _) (by simp [Value.oneCell']) (by decide) (by unfold maxLen; omega) (by omega) (by have := B4.out.size; simp; omega) _ rfl ?_; intro g9 cap9 w9 own9 grow9 hg9 hlt9; have O9 := Lib.hid own9; have B9 := Lib.hid ((bA B4.out _).grown grow9 (by have := B4.out.size; simp; omega) (fun j hj => (World.ownsRow.lt O4.out j hj).1)); clear own9 grow9 hg9 hlt9)
        go_roundw
        case rel => exact ⟨k + 1, by go_num, by omega, by omega, (by show World.ownsRow _ _ _ _ _ _ _; rw [take_numV ps' k x HX.out]; exact O9.out), B9.out⟩
        case measure => simp [intOf]; omega
      · have h2' : ¬ (k : Int) + 1 < 20 := by omega
        have hkE : Hid ((ps'.take k).map numV = numsM ps' ∧ k = (numsM ps').length) := by
          have : k = 19 := by omega
          subst this
          refine ⟨rfl, ?_⟩
          simp [numsM]; omega
        clear O2 B2
        go_wp2_with fail
        exact TAIL _ _ _ _ _ _ _ _ _ _ _ _ _ _ _ _ _ _ _ _ _ _ _ _ _ _ _ _ hkE.out.1 (by rw [hkE.out.1, ← hkE.out.2]; have := O3.out; rw [hkE.out.1] at this; exact this) B3.out
    · have h1' : ¬ (k : Int) + 1 < (ps'.length : Int) + 1 := by omega
      have hkE : Hid ((ps'.take k).map numV = numsM ps' ∧ k = (numsM ps').length) := by
        have : k = ps'.length := by omega
        subst this
        refine ⟨?_, ?_⟩
        · unfold numsM; rw [List.take_length, List.take_of_length_le (by omega)]
        · simp [numsM]; omega
      clear O2 B2
      go_wp2_with fail
      exact TAIL _ _ _ _ _ _ _ _ _ _ _ _ _ _ _ _ _ _ _ _ _ _ _ _ _ _ _ _ hkE.out.1 (by rw [hkE.out.1, ← hkE.out.2]; have := O3.out; rw [hkE.out.1] at this; exact this) B3.out

end Go.Proofs.YtdndhhkpbcpalaaDoor
