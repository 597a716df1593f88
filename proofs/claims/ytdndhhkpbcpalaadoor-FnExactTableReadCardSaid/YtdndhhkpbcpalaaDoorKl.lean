/-
  A LINE BEHIND A TABLE, AS THE MODEL READS IT: spec.l04Line.
-/
import Derived.Test.YtdndhhkpbcpalaaDoorKk
namespace Go.Proofs.YtdndhhkpbcpalaaDoor
open Go.RowKit
set_option linter.unusedVariables false
set_option linter.unusedSimpArgs false

set_option maxRecDepth 100000 in
set_option maxHeartbeats 16000000 in
/-- spec.l04Line of a station. -/
theorem sl_sta (C : Nat) (v1 v2 : Value) (rs : List LSt) (ps : List LPr) (s : ByteArray) (w : World) (h : OwT w C v1 v2 rs ps) (hB : C ≤ w.heap.size) (hr : rs.length ≤ 100000) (hp : ps.length ≤ 100000) (hs : s.size ≤ 20000) (hcA : (splitL 32 s.data.toList).headD [] = staW) (hcz : 2 ≤ (numsM ((splitL 32 s.data.toList).drop 1)).length) (hps : ps = []) :
    Calls Tryd.prog 10 #[.agg #[v1, v2], .string s] w fun e w' => LinePost C v1 v2 w (lineP (bare rs) ps s.data.toList) e w' := by
  obtain ⟨sl1, cap1, rfl, -⟩ := own_st h
  obtain ⟨sl2, cap2, rfl, -⟩ := own_pr h
  obtain ⟨i0, hi0, hz0, hz1, hz2⟩ := info_parts infoZ
  obtain ⟨wd, ps', hsp⟩ := split_ne 32 s.data.toList
  have HCA : Hid (wd = staW) := by
    rw [hsp] at hcA
    exact hcA
  have HCZ : Hid (2 ≤ (numsM ps').length) := by
    rw [hsp] at hcz
    exact hcz
  have HPS0 := Lib.hid hps
  clear hcA hcz hps
  have HL : Hid (lineP (bare rs) ps s.data.toList = lineM (bare rs) ps s.data.toList) := (line_same _ _ _).symm
  have hlen : (wd :: ps').length ≤ 20001 := by
    have := (split_len 32 s.data.toList).2
    rw [hsp] at this
    have e : s.data.toList.length = s.size := rfl
    omega
  have hsmall : Hid (∀ x ∈ wd :: ps', x.length ≤ 1000000) := by
    intro x hx
    rw [← hsp] at hx
    have := split_small 32 s.data.toList x hx
    have e : s.data.toList.length = s.size := rfl
    omega
  have hlp : ps'.length ≤ 20000 := by simp at hlen; omega
  have HSP := Lib.hid hsp
  have H := Lib.hid h
  clear h
  have B0 := Lib.hid (bA (bA0 w (.cells #[.slice sl1 rs.length cap1, .slice sl2 ps.length cap2] 25)) (.cells #[.slice none 0 0, .slice none 0 0] 25))
  have N0 := Lib.hid (new_at w (.cells #[.slice sl1 rs.length cap1, .slice sl2 ps.length cap2] 25))
  have M1 : Hid (((w.alloc (.cells #[.slice sl1 rs.length cap1, .slice sl2 ps.length cap2] 25)).alloc (.cells #[.slice none 0 0, .slice none 0 0] 25)).heap[w.heap.size + 1]? = some (.cells #[.slice none 0 0, .slice none 0 0] 25)) := by
    have := new_at (w.alloc (.cells #[.slice sl1 rs.length cap1, .slice sl2 ps.length cap2] 25)) (.cells #[.slice none 0 0, .slice none 0 0] 25)
    have hs1 : (w.alloc (.cells #[.slice sl1 rs.length cap1, .slice sl2 ps.length cap2] 25)).heap.size = w.heap.size + 1 := by simp
    rw [hs1] at this
    exact this
  have M0 : Hid (((w.alloc (.cells #[.slice sl1 rs.length cap1, .slice sl2 ps.length cap2] 25)).alloc (.cells #[.slice none 0 0, .slice none 0 0] 25)).heap[w.heap.size]? = some (.cells #[.slice sl1 rs.length cap1, .slice sl2 ps.length cap2] 25)) := ((bA0 (w.alloc (.cells #[.slice sl1 rs.length cap1, .slice sl2 ps.length cap2] 25)) (.cells #[.slice none 0 0, .slice none 0 0] 25)).block w.heap.size (by simp)).trans N0.out
  have hsz : ((w.alloc (.cells #[.slice sl1 rs.length cap1, .slice sl2 ps.length cap2] 25)).alloc (.cells #[.slice none 0 0, .slice none 0 0] 25)).heap.size = w.heap.size + 1 + 1 := by simp
  have BW := Lib.hid (spl_any s 32 ((w.alloc (.cells #[.slice sl1 rs.length cap1, .slice sl2 ps.length cap2] 25)).alloc (.cells #[.slice none 0 0, .slice none 0 0] 25)) (by omega))
  rw [hsp] at BW
  go_enter Tryd.func10, Tryd.ntmps10
  go_wp2_with fail
  refine BW.out.mono ?_
  rintro e w1 ⟨v6, rfl, ow6, b1⟩
  obtain ⟨g, cap, rfl, hcap, gl, gc⟩ : ∃ g cap, v6 = .slice (some ⟨g, 0, none⟩) (ps'.length + 1) cap ∧ ps'.length + 1 ≤ cap ∧ g < w1.heap.size ∧ ∀ i x, (wd :: ps')[i]? = some x → w1.cell? ⟨g, i, none⟩ = some (strV x) := by
    rcases ow6.2 with ⟨_, h0⟩ | ⟨g, cap, cur, e, _, hgb, hl, _⟩
    · simp at h0
    · subst e
      refine ⟨g, cap, rfl, by simpa using hl, (Array.getElem?_eq_some_iff.1 hgb).1, fun i x hx => ?_⟩
      have hi := (List.getElem?_eq_some_iff.1 hx).1
      rw [ow6.cellAt i (by omega)]
      unfold strs
      rw [List.getElem?_map, hx]
      rfl
  have B1 := Lib.hid (bT B0.out b1)
  have M01 := Lib.hid ((b1.block w.heap.size (by omega)).trans M0.out)
  have M11 := Lib.hid ((b1.block (w.heap.size + 1) (by omega)).trans M1.out)
  have H1 := Lib.hid ((H.out.below B0.out).below b1)
  have HS := b1.size
  rw [hsz] at HS
  have GC := Lib.hid gc
  clear ow6 b1 BW gc N0 M0 M1 hsz hsp B0 hlen
  have HS' : w.heap.size + 1 < w1.heap.size := by omega
  have HS0 : w.heap.size < w1.heap.size := by omega
  clear HS
  generalize hW0 : (w.alloc (.cells #[.slice sl1 rs.length cap1, .slice sl2 ps.length cap2] 25)).alloc (.cells #[.slice none 0 0, .slice none 0 0] 25) = w0 at *
  clear hW0
  have O2 := Lib.hid (own_lit0 w1 2 1)
  have B2 := Lib.hid (bA0 w1 (.cells #[] 2))
  go_wp2_with fail
  rename_i KT hKT
  have TAIL : ∀ (z : List Int) (nv : Value) (wr : World) (x8 : Int) (u9 u10 u17 u18 u19 u20 u21 u22 u23 u24 u25 u26 u27 u28 u29 u30 u31 u32 u33 u34 u35 u36 u37 u38 : Value), z = numsM ps' → wr.ownsRow w1.heap.size 2 1 nv z.length (valsZ z) → Below w1.heap.size w1 wr → KT { tmps := #[.agg #[.slice sl1 rs.length cap1, .slice sl2 ps.length cap2], .string s, .pointer (some ⟨w.heap.size, 0, none⟩), undef, .pointer (some ⟨w.heap.size + 1, 0, none⟩), .bool false, .slice (some ⟨g, 0, none⟩) (ps'.length + 1) cap, nv, .int .i64 x8, u9, u10, undef, undef, undef, .string s, .slice (some ⟨g, 0, none⟩) (ps'.length + 1) cap, .slice (some ⟨w1.heap.size, 0, none⟩) 0 0, u17, u18, u19, u20, u21, u22, u23, u24, u25, u26, u27, u28, u29, u30, u31, u32, u33, u34, u35, u36, u37, u38, undef, undef, undef, undef, undef, undef, undef, undef, undef, undef, undef, undef, undef, undef, undef, undef, undef, undef, undef, undef, undef, undef, undef, undef, undef, undef, undef, undef, undef, undef, undef, undef, undef, undef, undef, undef, undef, undef, undef, undef, undef, undef, undef, undef, undef, undef, undef, undef, undef, undef, undef, undef, undef, undef, undef, undef, undef, undef, undef, undef, undef, undef, undef, undef, undef, undef, undef, undef, undef, undef, undef, undef, undef, undef, undef, undef, undef, undef, undef, undef, undef, undef, undef, undef, undef, undef, undef], defers := [] } wr := by
    intro z nv wr x8 u9 u10 u17 u18 u19 u20 u21 u22 u23 u24 u25 u26 u27 u28 u29 u30 u31 u32 u33 u34 u35 u36 u37 u38 hz ho hb
    refine hKT _ _ ?_
    clear hKT
    obtain ⟨sl7, m7, c7, rfl⟩ := IsSl.own ho
    have hm7 : m7 = z.length := by
      rcases ho.2 with ⟨e, h0⟩ | ⟨g', cap', cur, e, _⟩
      · injection e with _ e2; omega
      · injection e with _ e2
    subst hm7
    have HM : Hid (lineP (bare rs) ps s.data.toList = if wd = staW ∧ 2 ≤ z.length ∧ ps = [] then
        (if B (staW ++ numsT z = s.data.toList ∧ TabB (bare rs ++ [(z.getD 0 0, z.getD 1 0, z.drop 2)]) ps) = true then some (bare rs ++ [(z.getD 0 0, z.getD 1 0, z.drop 2)], ps) else none)
      else if (wd = samW ∨ wd = besW) ∧ z.length = 2 then
        (if B (wd ++ numsT z = s.data.toList ∧ TabB (bare rs) (ps ++ [(z.getD 0 0, z.getD 1 0, kindW wd)])) = true then some (bare rs, ps ++ [(z.getD 0 0, z.getD 1 0, kindW wd)]) else none)
      else none) := by
      show _ = _
      rw [HL.out, hz]
      unfold lineM numsM
      rw [HSP.out]
      rfl
    have hz2 : 2 ≤ z.length := by rw [hz]; exact HCZ.out
    have hzl : z.length ≤ 19 := by rw [hz]; simp [numsM]; omega
    have hzb : Hid (∀ a ∈ z, -1000000000000000 ≤ a ∧ a ≤ 1000000000000000) := fun a ha => by
      rw [hz] at ha
      obtain ⟨x, _, rfl⟩ := List.mem_map.1 ha
      have := numV_bd x
      omega
    have BN := Lib.hid (bT B1.out hb)
    have M0r := Lib.hid ((hb.block w.heap.size (by omega)).trans M01.out)
    have M1r := Lib.hid ((hb.block (w.heap.size + 1) (by omega)).trans M11.out)
    have OT := Lib.hid (H1.out.below hb)
    have c0 := cellsAt M0r.out
    have c1 := cellsAt M1r.out
    have q0 := (hb.cell gl).trans (GC.out 0 wd rfl)
    unfold strV at q0
    have HO := Lib.hid ho
    have M1a := Lib.hid (((bA0 wr (.cells #[.slice sl1 rs.length cap1, .slice sl2 ps.length cap2] 25)).block (w.heap.size + 1) (Array.getElem?_eq_some_iff.1 M1r.out).1).trans M1r.out)
    have M0a := Lib.hid (((bA0 wr (.cells #[.slice sl1 rs.length cap1, .slice sl2 ps.length cap2] 25)).block w.heap.size (Array.getElem?_eq_some_iff.1 M0r.out).1).trans M0r.out)
    have c0a := cellsAt M0a.out
    have c1a := cellsAt M1a.out
    have hg := Nat.lt_of_lt_of_le gl hb.size
    have q0a := ((bA0 wr (.cells #[.slice sl1 rs.length cap1, .slice sl2 ps.length cap2] 25)).cell hg).trans q0
    have hsr : w.heap.size + 1 < wr.heap.size := (Array.getElem?_eq_some_iff.1 M1r.out).1
    clear ho hb hz GC gl O2 B2 M01 M11 H1 HSP hsmall hlp HS' HS0
    have hps := HPS0.out
    have hA := HCA.out
    subst hA
    have q0' : wr.cell? ⟨g, 0, none⟩ = some (.string ⟨#[115, 116, 97, 116, 105, 111, 110]⟩) := q0
    have q0b : (wr.alloc (.cells #[.slice sl1 rs.length cap1, .slice sl2 ps.length cap2] 25)).cell? ⟨g, 0, none⟩ = some (.string ⟨#[115, 116, 97, 116, 105, 111, 110]⟩) := q0a
    clear q0 q0a HCA
    obtain ⟨a, b, ds, hzz⟩ : ∃ a b ds, z = a :: b :: ds := by
      match z, hz2 with
      | a :: b :: r, _ => exact ⟨a, b, r, rfl⟩
    have HMs := Lib.hid (HM.out.trans (if_pos ⟨rfl, hz2, hps⟩))
    obtain ⟨iS, hiS, hzS0, hzS1, hzS2⟩ := info_parts infoSt
    have hzn : z.length = ds.length + 2 := by rw [hzz]; rfl
    have HZZ := Lib.hid hzz
    have hO := HO.out
    rw [hzn, hzz] at hO
    obtain ⟨g7, hg7, hcl⟩ : ∃ g7, sl7 = some ⟨g7, 0, none⟩ ∧ ds.length + 2 ≤ c7 := by
      rcases hO.2 with ⟨_, h0⟩ | ⟨g', cap', cur, e, _, _, hl, _⟩
      · omega
      · exact ⟨g', (Value.slice.inj e).1, by rw [(Value.slice.inj e).2.2]; exact hl⟩
    subst hg7
    have HZ := Lib.hid hO
    have hg7w := World.ownsRow.lt hO g7 rfl
    have hg7l := hg7w.2
    have z0 := hO.cellAt 0 (by omega)
    have z1 := hO.cellAt 1 (by omega)
    simp [valsZ] at z0 z1
    have hFr : ∀ s' ∈ rs, domB s' ≠ some g7 := fun s' hs' e => by
      obtain ⟨g', hg', _, hlt⟩ := dom_lt (H.out.dom s' hs')
      rw [hg'] at e
      have := Option.some.inj e
      have := B1.out.size
      omega
    have hab : Hid ((-1000000000000000 ≤ a ∧ a ≤ 1000000000000000) ∧ (-1000000000000000 ≤ b ∧ b ≤ 1000000000000000) ∧ MidL ds) := by
      have hq := hzb.out
      rw [hzz] at hq
      exact ⟨hq a (by simp), hq b (by simp), fun d hd => hq d (by simp [hd])⟩
    have hds19 : ds.length ≤ 17 := by omega
    have HPS := Lib.hid hps
    have hpl : (ps.length : Int) = 0 := by rw [hps]; rfl
    have hpl1 : ((ps.length : Int) == 0) = true := by rw [beq_iff_eq]; exact hpl
    have hpl2 : ((ps.length : Int) = 0) = True := eq_true hpl
    clear hpl hps
    have hCw : C ≤ w1.heap.size := Nat.le_trans hB B1.out.size
    have HYes : ∀ dv, Hid (staW ++ numsT z = s.data.toList → B (TabR (rs ++ [(a, b, dv, ds)]) ps) = true → (if B (staW ++ numsT z = s.data.toList ∧ TabB (bare rs ++ [(z.getD 0 0, z.getD 1 0, z.drop 2)]) ps) = true then some (bare rs ++ [(z.getD 0 0, z.getD 1 0, z.drop 2)], ps) else none) = some (bare (rs ++ [(a, b, dv, ds)]), ps)) := fun dv h1 h2 => by
      have h3 := B_true h2
      rw [← tab_bare, bare_add] at h3
      rw [bare_add]
      have e3 : (z.getD 0 0, z.getD 1 0, z.drop 2) = (a, b, ds) := by rw [hzz]; rfl
      rw [if_pos (B_yes ⟨h1, by rw [e3]; exact h3⟩), e3]
    have HNot : ∀ dv, Hid (¬ (staW ++ numsT z = s.data.toList ∧ TabR (rs ++ [(a, b, dv, ds)]) ps) → (if B (staW ++ numsT z = s.data.toList ∧ TabB (bare rs ++ [(z.getD 0 0, z.getD 1 0, z.drop 2)]) ps) = true then some (bare rs ++ [(z.getD 0 0, z.getD 1 0, z.drop 2)], ps) else none) = none) := fun dv h1 => by
      rw [if_neg]
      intro h2
      have h3 := B_true h2
      have e3 : (z.getD 0 0, z.getD 1 0, z.drop 2) = (a, b, ds) := by rw [hzz]; rfl
      rw [e3] at h3
      refine h1 ⟨h3.1, ?_⟩
      rw [← tab_bare, bare_add]
      exact h3.2
    have hz2' : (2 : Int) ≤ (ds.length : Int) + 2 := by omega
    have hF0 : ((0 : Int) < (ds.length : Int) + 2) = True := by simp only [eq_iff_iff, iff_true]; omega
    have hF1 : ((1 : Int) < (ds.length : Int) + 2) = True := by simp only [eq_iff_iff, iff_true]; omega
    rw [hzn]
    clear hO hzb HO hzn hzz
    by_cases hk2 : c7 = 2
    · subst hk2
      have HDS := Lib.hid (show ds = [] from List.eq_nil_of_length_eq_zero (by omega))
      have hF3 : (ds.length : Int) + 2 ≤ 2 := by omega
      have hF4 : ds.length + 2 ≤ 2 := by omega
      have HYes := HYes (.slice (some ⟨g7, 0, none⟩) 0 0)
      have HNot := HNot (.slice (some ⟨g7, 0, none⟩) 0 0)
      have HX0 : Hid (TailOf wr C (a, b, .slice (some ⟨g7, 0, none⟩) 0 0, ds)) := ⟨g7, 0, 0, 2, a :: b :: ds, by rw [HDS.out]; rfl, .inl (by simp [HDS.out]), by simp, by simp; omega, rfl, own_mono HZ.out hCw⟩
      go_wp2_with fail
      have bW0 := bA0 wr (.cells #[.slice sl1 rs.length cap1, .slice sl2 ps.length cap2] 25)
      have MO0 := Lib.hid (new_at wr (.cells #[.slice sl1 rs.length cap1, .slice sl2 ps.length cap2] 25))
      have hsz0 : (wr.alloc (.cells #[.slice sl1 rs.length cap1, .slice sl2 ps.length cap2] 25)).heap.size = wr.heap.size + 1 := by simp
      have BN0 := Lib.hid (bT BN.out bW0)
      have OT0 := Lib.hid (OT.out.below bW0)
      have T0 := Lib.hid (HX0.out.below bW0)
      have HZ0 := Lib.hid HX0.out.dm
      have KB : Hid (∀ W, Below (wr.alloc (.cells #[.slice sl1 rs.length cap1, .slice sl2 ps.length cap2] 25)).heap.size (wr.alloc (.cells #[.slice sl1 rs.length cap1, .slice sl2 ps.length cap2] 25)) W → W.cell? ⟨g7, 0, none⟩ = some (.int .i64 a) ∧ W.cell? ⟨g7, 1, none⟩ = some (.int .i64 b)) := fun W hW => ⟨((bT bW0 hW).cell hg7l).trans z0, ((bT bW0 hW).cell hg7l).trans z1⟩
      generalize wr.alloc (.cells #[.slice sl1 rs.length cap1, .slice sl2 ps.length cap2] 25) = W0 at *
      clear c0a c1a q0b bW0 HX0 HZ0
      refine wp_region_held_drew (S := fun W => W.cell? ⟨g7, 0, none⟩ = some (.int .i64 a) ∧ W.cell? ⟨g7, 1, none⟩ = some (.int .i64 b)) (by kernel_rfl) ?_ (fun hHeld => ?_)
      · exact KB.out _ (Below.refl _ _).drew
      refine wpAnyH_take (i := 0) (oi := _) (v := ?_) rfl (by kernel_rfl) (by kernel_rfl) (by kernel_rfl) (fun _ _ _ h => h) (Or.inl ⟨by rfl, ?_⟩) (by assumption) ?_
      rotate_left
      · first | (intro w hSw; (try dsimp only at hSw); go_simp; done) | (intro w hSw; (try dsimp only at hSw); go_simp; with_reducible rfl)
      try simp only [Act.put, List.setIfInBounds_toArray, List.set_cons_zero, List.set_cons_succ, List.getElem_toArray, List.getElem_cons_zero]
      refine wpAnyH_take (i := 1) (oi := _) (v := ?_) rfl (by kernel_rfl) (by kernel_rfl) (by kernel_rfl) (fun _ _ _ h => h) (Or.inl ⟨by rfl, ?_⟩) (by assumption) ?_
      rotate_left
      · first | (intro w hSw; (try dsimp only at hSw); go_simp; done) | (intro w hSw; (try dsimp only at hSw); go_simp; with_reducible rfl)
      try simp only [Act.put, List.setIfInBounds_toArray, List.set_cons_zero, List.set_cons_succ, List.getElem_toArray, List.getElem_cons_succ, List.getElem_cons_zero]
      refine wpAnyH_take (i := 2) (oi := _) (v := ?_) rfl (by kernel_rfl) (by kernel_rfl) (by kernel_rfl) (fun _ _ _ h => h) (Or.inl ⟨by rfl, ?_⟩) (by assumption) ?_
      rotate_left
      · first | (intro w hSw; (try dsimp only at hSw); go_simp; done) | (intro w hSw; (try dsimp only at hSw); go_simp; with_reducible rfl)
      try simp only [Act.put, List.setIfInBounds_toArray, List.set_cons_zero, List.set_cons_succ, List.getElem_toArray, List.getElem_cons_succ, List.getElem_cons_zero]
      refine wpAnyH_take (i := 3) (oi := _) (v := ?_) rfl (by kernel_rfl) (by kernel_rfl) (by kernel_rfl) (fun _ _ _ h => h) (Or.inl ⟨by rfl, ?_⟩) (by assumption) ?_
      rotate_left
      · first | (intro w hSw; (try dsimp only at hSw); go_simp; done) | (intro w hSw; (try dsimp only at hSw); go_simp; with_reducible rfl)
      try simp only [Act.put, List.setIfInBounds_toArray, List.set_cons_zero, List.set_cons_succ, List.getElem_toArray, List.getElem_cons_succ, List.getElem_cons_zero]
      refine wpAnyH_take (i := 4) (oi := _) (v := ?_) rfl (by kernel_rfl) (by kernel_rfl) (by kernel_rfl) (fun _ _ _ h => h) (Or.inl ⟨by rfl, ?_⟩) (by assumption) ?_
      rotate_left
      · first | (intro w hSw; (try dsimp only at hSw); go_simp; done) | (intro w hSw; (try dsimp only at hSw); go_simp; with_reducible rfl)
      try simp only [Act.put, List.setIfInBounds_toArray, List.set_cons_zero, List.set_cons_succ, List.getElem_toArray, List.getElem_cons_succ, List.getElem_cons_zero]
      refine wpAnyH_take (i := 5) (oi := _) (v := ?_) rfl (by kernel_rfl) (by kernel_rfl) (by kernel_rfl) (fun _ _ _ h => h) (Or.inl ⟨by rfl, ?_⟩) (by assumption) ?_
      rotate_left
      · first | (intro w hSw; (try dsimp only at hSw); go_simp; done) | (intro w hSw; (try dsimp only at hSw); go_simp; with_reducible rfl)
      try simp only [Act.put, List.setIfInBounds_toArray, List.set_cons_zero, List.set_cons_succ, List.getElem_toArray, List.getElem_cons_succ, List.getElem_cons_zero]
      refine wpAnyH_take (i := 6) (oi := _) (v := ?_) rfl (by kernel_rfl) (by kernel_rfl) (by kernel_rfl) (fun _ _ _ h => h) (Or.inl ⟨by rfl, ?_⟩) (by assumption) ?_
      rotate_left
      · first | (intro w hSw; (try dsimp only at hSw); go_simp; done) | (intro w hSw; (try dsimp only at hSw); go_simp; with_reducible rfl)
      try simp only [Act.put, List.setIfInBounds_toArray, List.set_cons_zero, List.set_cons_succ, List.getElem_toArray, List.getElem_cons_succ, List.getElem_cons_zero]
      refine wpAnyH_take (i := 7) (oi := _) (v := ?_) rfl (by kernel_rfl) (by kernel_rfl) (by kernel_rfl) (fun _ _ _ h => h) (Or.inl ⟨by rfl, ?_⟩) (by assumption) ?_
      rotate_left
      · first | (intro w hSw; (try dsimp only at hSw); go_simp; done) | (intro w hSw; (try dsimp only at hSw); go_simp; with_reducible rfl)
      try simp only [Act.put, List.setIfInBounds_toArray, List.set_cons_zero, List.set_cons_succ, List.getElem_toArray, List.getElem_cons_succ, List.getElem_cons_zero]
      refine wpAnyH_take (i := 8) (oi := _) (v := ?_) rfl (by kernel_rfl) (by kernel_rfl) (by kernel_rfl) (fun _ _ _ h => h) (Or.inl ⟨by rfl, ?_⟩) (by assumption) ?_
      rotate_left
      · first | (intro w hSw; (try dsimp only at hSw); go_simp; done) | (intro w hSw; (try dsimp only at hSw); go_simp; with_reducible rfl)
      try simp only [Act.put, List.setIfInBounds_toArray, List.set_cons_zero, List.set_cons_succ, List.getElem_toArray, List.getElem_cons_succ, List.getElem_cons_zero]
      refine wpAnyH_ready (rs := [9]) (by kernel_rfl) (by simp) ?_
      refine AllReadyH.cons rfl (fun K hK => ?_) AllReadyH.nil
      go_simp
      go_wp2
      refine hK.out _ _ ?_ (fun hHeld => ?_)
      · exact KB.out _ (bA (Below.refl _ _).drew _)
      clear hK K
      refine wpAnyH_ready (rs := [10]) (by kernel_rfl) (by simp) ?_
      refine AllReadyH.cons rfl (fun K hK => ?_) AllReadyH.nil
      go_simp
      go_wp2
      refine hK.out _ _ ?_ (fun hHeld => ?_)
      · exact KB.out _ (bA (Below.refl _ _).drew _)
      clear hK K
      refine wpAnyH_done (by kernel_rfl) ?_ _
      rename_i hh1 hh2
      clear hh1 hh2
      have bW := (bA0 W0 (.cells #[.int .i64 a, .int .i64 b, .slice (some ⟨g7, 0, none⟩) 0 0] 43)).drew
      have MS1 : Hid (((W0.alloc (.cells #[.int .i64 a, .int .i64 b, .slice (some ⟨g7, 0, none⟩) 0 0] 43)).drew).heap[wr.heap.size + 1]? = some (.cells #[.int .i64 a, .int .i64 b, .slice (some ⟨g7, 0, none⟩) 0 0] 43)) := by
        have := new_at W0 (.cells #[.int .i64 a, .int .i64 b, .slice (some ⟨g7, 0, none⟩) 0 0] 43)
        rw [hsz0] at this
        exact this
      have hs1 : ((W0.alloc (.cells #[.int .i64 a, .int .i64 b, .slice (some ⟨g7, 0, none⟩) 0 0] 43)).drew).heap.size = wr.heap.size + 1 + 1 := by
        show (W0.alloc _).heap.size = _
        simp [hsz0]
      have BN1 := Lib.hid (bT BN0.out bW)
      have OT1 := Lib.hid (OT0.out.below bW)
      have T1 := Lib.hid (T0.out.below bW)
      have HZ1 := Lib.hid T1.out
      have MO1 := Lib.hid ((bW.block wr.heap.size (by omega)).trans MO0.out)
      have MR1 := Lib.hid ((bW.block (w.heap.size + 1) (by omega)).trans M1a.out)
      have MT1 := Lib.hid ((bW.block w.heap.size (by omega)).trans M0a.out)
      generalize (W0.alloc (.cells #[.int .i64 a, .int .i64 b, .slice (some ⟨g7, 0, none⟩) 0 0] 43)).drew = W1 at *
      clear bW OT0 T0 MO0 BN0 KB hsz0 hHeld M0a M1a
      have hobl : wr.heap.size < W1.heap.size := by omega
      have hsbl : wr.heap.size + 1 < W1.heap.size := by omega
      have hn1l : w.heap.size + 1 < W1.heap.size := by omega
      have hn0l : w.heap.size < W1.heap.size := by omega
      have hC1 : C ≤ W1.heap.size := by omega
      have KS : Hid (∀ W, Below W1.heap.size W1 W → W.cell? ⟨w.heap.size, 0, none⟩ = some (.slice sl1 rs.length cap1) ∧ W.cell? ⟨wr.heap.size + 1, 0, none⟩ = some (.int .i64 a) ∧ W.cell? ⟨wr.heap.size + 1, 1, none⟩ = some (.int .i64 b) ∧ W.cell? ⟨wr.heap.size + 1, 2, none⟩ = some (.slice (some ⟨g7, 0, none⟩) 0 0)) := fun W hW => ⟨(hW.cell hn0l).trans (by rw [(cellsAt MT1.out).1]; rfl), (hW.cell hsbl).trans (by rw [(cellsAt MS1.out).1]; rfl), (hW.cell hsbl).trans (by rw [(cellsAt MS1.out).1]; rfl), (hW.cell hsbl).trans (by rw [(cellsAt MS1.out).1]; rfl)⟩
      have BD := Lib.hid (Below.refl W1.heap.size W1).drew
      clear hs1
      go_wp2_with fail
      refine wp_region_held_drew (S := fun W => W.cell? ⟨w.heap.size, 0, none⟩ = some (.slice sl1 rs.length cap1) ∧ W.cell? ⟨wr.heap.size + 1, 0, none⟩ = some (.int .i64 a) ∧ W.cell? ⟨wr.heap.size + 1, 1, none⟩ = some (.int .i64 b) ∧ W.cell? ⟨wr.heap.size + 1, 2, none⟩ = some (.slice (some ⟨g7, 0, none⟩) 0 0)) (by kernel_rfl) ?_ (fun hHeld => ?_)
      · exact KS.out _ BD.out
      generalize W1.drew = wd at *
      refine wpAnyH_take (i := 1) (oi := _) (v := ?_) rfl (by kernel_rfl) (by kernel_rfl) (by kernel_rfl) (fun _ _ _ h => h) (Or.inl ⟨by rfl, ?_⟩) (by assumption) ?_
      rotate_left
      · first | (intro w hSw; (try dsimp only at hSw); go_simp; done) | (intro w hSw; (try dsimp only at hSw); go_simp; with_reducible rfl)
      try simp only [Act.put, List.setIfInBounds_toArray, List.set_cons_zero, List.set_cons_succ, List.getElem_toArray, List.getElem_cons_succ, List.getElem_cons_zero]
      refine wpAnyH_take (i := 2) (oi := _) (v := ?_) rfl (by kernel_rfl) (by kernel_rfl) (by kernel_rfl) (fun _ _ _ h => h) (Or.inl ⟨by rfl, ?_⟩) (by assumption) ?_
      rotate_left
      · first | (intro w hSw; (try dsimp only at hSw); go_simp; done) | (intro w hSw; (try dsimp only at hSw); go_simp; with_reducible rfl)
      try simp only [Act.put, List.setIfInBounds_toArray, List.set_cons_zero, List.set_cons_succ, List.getElem_toArray, List.getElem_cons_succ, List.getElem_cons_zero]
      refine wpAnyH_take (i := 4) (oi := _) (v := ?_) rfl (by kernel_rfl) (by kernel_rfl) (by kernel_rfl) (fun _ _ _ h => h) (Or.inl ⟨by rfl, ?_⟩) (by assumption) ?_
      rotate_left
      · first | (intro w hSw; (try dsimp only at hSw); go_simp; done) | (intro w hSw; (try dsimp only at hSw); go_simp; with_reducible rfl)
      try simp only [Act.put, List.setIfInBounds_toArray, List.set_cons_zero, List.set_cons_succ, List.getElem_toArray, List.getElem_cons_succ, List.getElem_cons_zero]
      refine wpAnyH_ready (rs := [0, 5]) (by kernel_rfl) (by simp) ?_
      refine (AllReadyH.cons rfl (fun K hK => ?_) (AllReadyH.cons rfl (fun K hK => ?_) AllReadyH.nil))
      · go_simp
        go_wp2
        refine hK.out _ _ ?_ (fun hHeld => ?_)
        · exact KS.out _ (BD.out.alloc BD.out.size _)
        clear hK K hHeld
        have BX15 := Lib.hid (BD.out.alloc BD.out.size (.cells #[] 43))
        have OX15 := Lib.hid (own_mono (own_lit0 wd 43 3) BD.out.size)
        have hl15 : wd.heap.size < (wd.alloc (.cells #[] 43)).heap.size := by simp
        have hm15 := BD.out.size
        generalize wd.alloc (.cells #[] 43) = w15_ at *
        generalize wd.heap.size = bk15 at *
        have hb15 := hl15
        refine wpAnyH_ready (rs := [3, 5]) (by kernel_rfl) (by simp) ?_
        refine (AllReadyH.cons rfl (fun K hK => ?_) (AllReadyH.cons rfl (fun K hK => ?_) AllReadyH.nil))
        · refine step_append_own rfl (.tmp 64) (.tmp 66) 22 43 rfl iS (.agg #[.int .i64 0, .int .i64 0, .slice none 0 0]) 3 40 Tryd.underlying22 hiS hzS0 hzS1 hzS2 rfl (by decide) (by decide) W1.heap.size bk15 (by simp [Act.eval, Act.put]) OX15.out C (.slice sl1 rs.length cap1) rs.length (stC rs) (by simp [Act.eval, Act.put]) ((OT1.out.below (BX15.out)).r1) (stC_one rs (OT1.out.below (BX15.out)).dom) (by omega) BX15.out.size ?_
          intro x16_ y16_ w16_ on16 gn16
          have BX16 := Lib.hid (BX15.out.grown gn16 BX15.out.size (fun k hk => by cases hk; exact (World.ownsRow.lt OX15.out bk15 rfl).1))
          refine hK.out _ _ ?_ (fun hHeld => ?_)
          · exact KS.out _ BX16.out
          clear hK K hHeld
          have OX16 := Lib.hid on16
          clear on16 gn16
          refine wpAnyH_ready (rs := [5]) (by kernel_rfl) (by simp) ?_
          refine (AllReadyH.cons rfl (fun K hK => ?_) AllReadyH.nil)
          · go_simp
            go_wp2
            refine hK.out _ _ ?_ (fun hHeld => ?_)
            · exact KS.out _ (BX16.out.alloc BX16.out.size _)
            clear hK K hHeld
            have BX17 := Lib.hid (BX16.out.alloc BX16.out.size (.cells #[.int .i64 a, .int .i64 b, .slice (some ⟨g7, 0, none⟩) 0 0] 43))
            have OX17 := Lib.hid (own_below OX16.out (bA0 w16_ (.cells #[.int .i64 a, .int .i64 b, .slice (some ⟨g7, 0, none⟩) 0 0] 43)))
            have SC17 := Lib.hid (cell_three_new w16_ (.int .i64 a) (.int .i64 b) (.slice (some ⟨g7, 0, none⟩) 0 0) 43)
            have hl17 : w16_.heap.size < (w16_.alloc (.cells #[.int .i64 a, .int .i64 b, .slice (some ⟨g7, 0, none⟩) 0 0] 43)).heap.size := by simp
            have hm17 := BX16.out.size
            generalize w16_.alloc (.cells #[.int .i64 a, .int .i64 b, .slice (some ⟨g7, 0, none⟩) 0 0] 43) = w17_ at *
            generalize w16_.heap.size = bk17 at *
            have hs17 := hl17
            refine wpAnyH_ready (rs := [6]) (by kernel_rfl) (by simp) ?_
            refine (AllReadyH.cons rfl (fun K hK => ?_) AllReadyH.nil)
            · refine step_append_lies _ rfl (.tmp 67) (.tmp 69) 22 rfl W1.heap.size 43 iS _ 3 40 Tryd.underlying22 hiS hzS0 hzS1 hzS2 rfl (by decide) (.slice x16_ rs.length y16_) rs.length (stC rs) (by simp [Act.eval, Act.put]) OX17.out ⟨bk17, 0, none⟩ 1 1 [.int .i64 a, .int .i64 b, .slice (some ⟨g7, 0, none⟩) 0 0] (by simp [Act.eval, Act.put]) rfl SC17.out (by simp [Value.oneCell']) (by decide) (by unfold maxLen; omega) (by omega) BX17.out.size _ rfl ?_
              intro g9 cap9 w18_ on18 gn18 hg18 hlt18
              have BX18 := Lib.hid (BX17.out.grown gn18 BX17.out.size (fun k hk => (World.ownsRow.lt OX17.out k hk).1))
              refine hK.out _ _ ?_ (fun hHeld => ?_)
              · exact KS.out _ BX18.out
              clear hK K hHeld
              have OX18 := Lib.hid on18
              clear on18 gn18 hg18 hlt18
              try simp only [Act.put, List.setIfInBounds_toArray, List.set_cons_zero, List.set_cons_succ, List.getElem_toArray, List.getElem_cons_succ, List.getElem_cons_zero]
              have hHeld := KS.out _ BX18.out
              refine wpAnyH_take (i := 7) (oi := _) (v := ?_) rfl (by kernel_rfl) (by kernel_rfl) (by kernel_rfl) (fun _ _ _ h => h) (Or.inl ⟨by rfl, ?_⟩) (by assumption) ?_
              rotate_left
              · first | (intro w hSw; (try dsimp only at hSw); go_simp; done) | (intro w hSw; (try dsimp only at hSw); go_simp; with_reducible rfl)
              try simp only [Act.put, List.setIfInBounds_toArray, List.set_cons_zero, List.set_cons_succ, List.getElem_toArray, List.getElem_cons_succ, List.getElem_cons_zero]
              clear hHeld
              refine wpAnyH_ready (rs := [8]) (by kernel_rfl) (by simp) ?_
              refine (AllReadyH.cons rfl (fun K hK => ?_) AllReadyH.nil)
              · have cO19 := cellsAt ((BX18.out.block wr.heap.size hobl).trans MO1.out)
                go_simp
                go_wp2
                refine hK.out _ _ ?_ (fun hHeld => ?_)
                · exact ⟨(World.cell?_of_block (Below.heap_setCell _ _ _ _ (by show w.heap.size ≠ wr.heap.size; omega))).trans (KS.out _ BX18.out).1, (World.cell?_of_block (Below.heap_setCell _ _ _ _ (by show wr.heap.size + 1 ≠ wr.heap.size; omega))).trans (KS.out _ BX18.out).2.1, (World.cell?_of_block (Below.heap_setCell _ _ _ _ (by show wr.heap.size + 1 ≠ wr.heap.size; omega))).trans (KS.out _ BX18.out).2.2.1, (World.cell?_of_block (Below.heap_setCell _ _ _ _ (by show wr.heap.size + 1 ≠ wr.heap.size; omega))).trans (KS.out _ BX18.out).2.2.2⟩
                clear hK K hHeld cO19
                refine wpAnyH_done (by kernel_rfl) ?_ _
                have MO2 := Lib.hid (heap_setCell_same w18_ wr.heap.size 0 _ 25 (.slice (some ⟨g9, 0, none⟩) (rs.length + 1) cap9) ((BX18.out.block wr.heap.size hobl).trans MO1.out))
                have MR2 := Lib.hid ((Below.heap_setCell w18_ ⟨wr.heap.size, 0, none⟩ (.slice (some ⟨g9, 0, none⟩) (rs.length + 1) cap9) (w.heap.size + 1) (by show w.heap.size + 1 ≠ wr.heap.size; omega)).trans ((BX18.out.block (w.heap.size + 1) hn1l).trans MR1.out))
                have MS2 := Lib.hid ((Below.heap_setCell w18_ ⟨wr.heap.size, 0, none⟩ (.slice (some ⟨g9, 0, none⟩) (rs.length + 1) cap9) (wr.heap.size + 1) (by show wr.heap.size + 1 ≠ wr.heap.size; omega)).trans ((BX18.out.block (wr.heap.size + 1) hsbl).trans MS1.out))
                have MOb := Lib.hid ((BX18.out.block wr.heap.size hobl).trans MO1.out)
                have CO : Hid (OwT (w18_.setCell ⟨wr.heap.size, 0, none⟩ (.slice (some ⟨g9, 0, none⟩) (rs.length + 1) cap9)) C (.slice (some ⟨g9, 0, none⟩) (rs.length + 1) cap9) (.slice sl2 ps.length cap2) (rs ++ [(a, b, .slice (some ⟨g7, 0, none⟩) 0 0, ds)]) ps) := by
                  have oo := OT1.out.below BX18.out
                  have gs := grown_set w18_ wr.heap.size 0 (.slice (some ⟨g9, 0, none⟩) (rs.length + 1) cap9)
                  refine ⟨?_, own_keptB oo.r2 MOb.out (by decide) gs, fun r hr => ?_, ?_⟩
                  · have := own_keptB (own_mono OX18.out hC1) MOb.out (by decide) gs
                    rw [List.length_append, stC_add]
                    exact this
                  · rcases List.mem_append.1 hr with hr | hr
                    · exact (oo.dom r hr).keptB MOb.out (by decide) gs
                    · rw [List.mem_singleton.1 hr]
                      exact (T1.out.below BX18.out).keptB MOb.out (by decide) gs
                  · refine List.pairwise_append.2 ⟨oo.diff, List.pairwise_singleton _ _, fun s' hs' t ht => ?_⟩
                    rw [List.mem_singleton.1 ht]
                    exact hFr s' hs'
                have BT2 := Lib.hid ((bT BN1.out BX18.out).setCell (p := ⟨wr.heap.size, 0, none⟩) (by show w.heap.size ≤ wr.heap.size; omega) (.slice (some ⟨g9, 0, none⟩) (rs.length + 1) cap9))
                have IZ := Lib.hid ((HZ1.out.below BX18.out))
                have hn1 : w.heap.size + 1 < (w18_.setCell ⟨wr.heap.size, 0, none⟩ (.slice (some ⟨g9, 0, none⟩) (rs.length + 1) cap9)).heap.size := (Array.getElem?_eq_some_iff.1 MR2.out).1
                have hl0 : wr.heap.size < (w18_.setCell ⟨wr.heap.size, 0, none⟩ (.slice (some ⟨g9, 0, none⟩) (rs.length + 1) cap9)).heap.size := (Array.getElem?_eq_some_iff.1 MO2.out).1
                have hl1 : wr.heap.size + 1 < (w18_.setCell ⟨wr.heap.size, 0, none⟩ (.slice (some ⟨g9, 0, none⟩) (rs.length + 1) cap9)).heap.size := (Array.getElem?_eq_some_iff.1 MS2.out).1
                have TL := Lib.hid ((CO.out.dom _ (List.mem_append_right _ (List.mem_singleton.2 rfl))).dm)
                generalize w18_.setCell ⟨wr.heap.size, 0, none⟩ (.slice (some ⟨g9, 0, none⟩) (rs.length + 1) cap9) = W2 at *
                have KZ : Hid (∀ W, Below W2.heap.size W2 W → W.cell? ⟨wr.heap.size, 0, none⟩ = some (.slice (some ⟨g9, 0, none⟩) (rs.length + 1) cap9) ∧ W.cell? ⟨wr.heap.size, 1, none⟩ = some (.slice sl2 ps.length cap2) ∧ W.cell? ⟨wr.heap.size + 1, 0, none⟩ = some (.int .i64 a) ∧ W.cell? ⟨wr.heap.size + 1, 1, none⟩ = some (.int .i64 b) ∧ W.cell? ⟨wr.heap.size + 1, 2, none⟩ = some (.slice (some ⟨g7, 0, none⟩) 0 0)) := fun W hW => ⟨(hW.cell hl0).trans (by rw [(cellsAt MO2.out).1]; rfl), (hW.cell hl0).trans (by rw [(cellsAt MO2.out).1]; rfl), (hW.cell hl1).trans (by rw [(cellsAt MS2.out).1]; rfl), (hW.cell hl1).trans (by rw [(cellsAt MS2.out).1]; rfl), (hW.cell hl1).trans (by rw [(cellsAt MS2.out).1]; rfl)⟩
                have TC : Hid (∀ W, Below W2.heap.size W2 W → Calls Tryd.prog 18 #[.agg #[.slice (some ⟨g9, 0, none⟩) (rs.length + 1) cap9, .slice sl2 ps.length cap2]] W fun e w' => e = .returned (.bool (B (TabR (rs ++ [(a, b, .slice (some ⟨g7, 0, none⟩) 0 0, ds)]) ps))) ∧ Below W.heap.size W w') := fun W hW => by
                  have hC := CO.out.below hW
                  obtain ⟨s1, k1, ev, hst⟩ := own_st hC
                  obtain ⟨s2, k2, ev2, hpr⟩ := own_pr hC
                  have := str_any s1 k1 s2 k2 _ _ W hst hpr
                  rw [ev, ev2]
                  exact this
                have TS : Hid (∀ W, Below W2.heap.size W2 W → Calls Tryd.prog 17 #[.agg #[.int .i64 a, .int .i64 b, .slice (some ⟨g7, 0, none⟩) 0 0]] W fun e w' => e = .returned (.string ⟨(statB a b ds).toArray⟩) ∧ Below W.heap.size W w') := fun W hW => by
                  obtain ⟨sx, cx, ex, ix, _⟩ := TL.out
                  have ex' : .slice (some ⟨g7, 0, none⟩) 0 0 = Value.slice sx ds.length cx := ex
                  have := stt_any a b sx cx ds W hab.out.1 hab.out.2.1 (by omega) hab.out.2.2 (ix.below hW)
                  rw [ex']
                  exact this
                have HX : Hid ((((⟨(statB a b ds).toArray⟩ : ByteArray).toList == s.toList) = true) ↔ staW ++ numsT z = s.data.toList) := by
                  show _ ↔ _
                  rw [beq_iff_eq, Go.ByteArray.toList_eq, Go.ByteArray.toList_eq, HZZ.out, ← stat_words]
                clear IZ
                generalize hXB : (⟨(statB a b ds).toArray⟩ : ByteArray) = XB at *
                clear hXB
                go_wp2_with fail
                by_cases hxe : (XB.toList == s.toList) = true
                · refine wp_region_held_drew (S := fun W => W.cell? ⟨wr.heap.size, 0, none⟩ = some (.slice (some ⟨g9, 0, none⟩) (rs.length + 1) cap9) ∧ W.cell? ⟨wr.heap.size, 1, none⟩ = some (.slice sl2 ps.length cap2) ∧ W.cell? ⟨wr.heap.size + 1, 0, none⟩ = some (.int .i64 a) ∧ W.cell? ⟨wr.heap.size + 1, 1, none⟩ = some (.int .i64 b) ∧ W.cell? ⟨wr.heap.size + 1, 2, none⟩ = some (.slice (some ⟨g7, 0, none⟩) 0 0)) (by kernel_rfl) ?_ (fun hHeld => ?_)
                  · exact KZ.out _ ((Below.refl _ _).drew)
                  refine wpAnyH_take (i := 0) (oi := _) (v := ?_) rfl (by kernel_rfl) (by kernel_rfl) (by kernel_rfl) (fun _ _ _ h => h) (Or.inl ⟨by rfl, ?_⟩) (by assumption) ?_
                  rotate_left
                  · first | (intro w hSw; (try dsimp only at hSw); go_simp; done) | (intro w hSw; (try dsimp only at hSw); go_simp; with_reducible rfl)
                  try simp only [Act.put, List.setIfInBounds_toArray, List.set_cons_zero, List.set_cons_succ, List.getElem_toArray, List.getElem_cons_zero]
                  refine wpAnyH_take (i := 1) (oi := _) (v := ?_) rfl (by kernel_rfl) (by kernel_rfl) (by kernel_rfl) (fun _ _ _ h => h) (Or.inl ⟨by rfl, ?_⟩) (by assumption) ?_
                  rotate_left
                  · first | (intro w hSw; (try dsimp only at hSw); go_simp; done) | (intro w hSw; (try dsimp only at hSw); go_simp; with_reducible rfl)
                  try simp only [Act.put, List.setIfInBounds_toArray, List.set_cons_zero, List.set_cons_succ, List.getElem_toArray, List.getElem_cons_succ, List.getElem_cons_zero]
                  refine wpAnyH_take (i := 3) (oi := _) (v := ?_) rfl (by kernel_rfl) (by kernel_rfl) (by kernel_rfl) (fun _ _ _ h => h) (Or.inl ⟨by rfl, ?_⟩) (by assumption) ?_
                  rotate_left
                  · first | (intro w hSw; (try dsimp only at hSw); go_simp; done) | (intro w hSw; (try dsimp only at hSw); go_simp; with_reducible rfl)
                  try simp only [Act.put, List.setIfInBounds_toArray, List.set_cons_zero, List.set_cons_succ, List.getElem_toArray, List.getElem_cons_succ, List.getElem_cons_zero]
                  refine wpAnyH_ready (rs := [2]) (by kernel_rfl) (by simp) ?_
                  refine AllReadyH.cons rfl (fun K hK => ?_) AllReadyH.nil
                  go_simp
                  go_wp2_with (go_at_call 17; refine (TS.out _ ((Below.refl _ _).drew)).mono ?_; rintro e w11 ⟨rfl, b11⟩; have B11 := Lib.hid (((Below.refl W2.heap.size W2).drew).trans b11); clear b11)
                  refine hK.out _ _ ?_ (fun hHeld => ?_)
                  · exact KZ.out _ B11.out
                  clear hK K
                  refine wpAnyH_take (i := 4) (oi := _) (v := ?_) rfl (by kernel_rfl) (by kernel_rfl) (by kernel_rfl) (fun _ _ _ h => h) (Or.inl ⟨by rfl, ?_⟩) (by assumption) ?_
                  rotate_left
                  · first | (intro w hSw; (try dsimp only at hSw); go_simp; done) | (intro w hSw; (try dsimp only at hSw); go_simp; with_reducible rfl)
                  try simp only [Act.put, List.setIfInBounds_toArray, List.set_cons_zero, List.set_cons_succ, List.getElem_toArray, List.getElem_cons_succ, List.getElem_cons_zero]
                  refine wpAnyH_take (i := 5) (oi := _) (v := ?_) rfl (by kernel_rfl) (by kernel_rfl) (by kernel_rfl) (fun _ _ _ h => h) (Or.inl ⟨by rfl, ?_⟩) (by assumption) ?_
                  rotate_left
                  · first | (intro w hSw; (try dsimp only at hSw); go_simp; done) | (intro w hSw; (try dsimp only at hSw); go_simp; with_reducible rfl)
                  try simp only [Act.put, List.setIfInBounds_toArray, List.set_cons_zero, List.set_cons_succ, List.getElem_toArray, List.getElem_cons_succ, List.getElem_cons_zero]
                  refine wpAnyH_take (i := 6) (oi := _) (v := ?_) rfl (by kernel_rfl) (by kernel_rfl) (by kernel_rfl) (fun _ _ _ h => h) (Or.inl ⟨by rfl, ?_⟩) (by assumption) ?_
                  rotate_left
                  · first | (intro w hSw; (try dsimp only at hSw); go_simp; done) | (intro w hSw; (try dsimp only at hSw); go_simp; with_reducible rfl)
                  try simp only [Act.put, List.setIfInBounds_toArray, List.set_cons_zero, List.set_cons_succ, List.getElem_toArray, List.getElem_cons_succ, List.getElem_cons_zero]
                  refine wpAnyH_ready (rs := [7]) (by kernel_rfl) (by simp) ?_
                  refine AllReadyH.cons rfl (fun K hK => ?_) AllReadyH.nil
                  go_simp
                  go_wp2_with (go_at_call 18; refine (TC.out _ B11.out).mono ?_; rintro e w12 ⟨rfl, b12⟩; have B12 := Lib.hid (bT B11.out b12); have c12 := cellsAt ((B12.out.block (w.heap.size + 1) hn1).trans MR2.out); clear b12)
                  refine hK.out _ _ ?_ (fun hHeld => ?_)
                  · exact KZ.out _ B12.out
                  clear hK K
                  refine wpAnyH_take (i := 8) (oi := _) (v := ?_) rfl (by kernel_rfl) (by kernel_rfl) (by kernel_rfl) (fun _ _ _ h => h) (Or.inl ⟨by rfl, ?_⟩) (by assumption) ?_
                  rotate_left
                  · first | (intro w hSw; (try dsimp only at hSw); go_simp; done) | (intro w hSw; (try dsimp only at hSw); go_simp; with_reducible rfl)
                  try simp only [Act.put, List.setIfInBounds_toArray, List.set_cons_zero, List.set_cons_succ, List.getElem_toArray, List.getElem_cons_succ, List.getElem_cons_zero]
                  refine wpAnyH_ready (rs := [9]) (by kernel_rfl) (by simp) ?_
                  refine AllReadyH.cons rfl (fun K hK => ?_) AllReadyH.nil
                  go_simp
                  go_wp2
                  refine hK.out _ _ ?_ (fun hHeld => ?_)
                  · exact (fun hX => ⟨(set2_cell _ _ _ _ _ _ (by omega)).trans hX.1, (set2_cell _ _ _ _ _ _ (by omega)).trans hX.2.1, (set2_cell _ _ _ _ _ _ (by omega)).trans hX.2.2.1, (set2_cell _ _ _ _ _ _ (by omega)).trans hX.2.2.2.1, (set2_cell _ _ _ _ _ _ (by omega)).trans hX.2.2.2.2⟩) (KZ.out _ B12.out)
                  clear hK K
                  refine wpAnyH_take (i := 10) (oi := _) (v := ?_) rfl (by kernel_rfl) (by kernel_rfl) (by kernel_rfl) (fun _ _ _ h => h) (Or.inl ⟨by rfl, ?_⟩) (by assumption) ?_
                  rotate_left
                  · first | (intro w hSw; (try dsimp only at hSw); go_simp; done) | (intro w hSw; (try dsimp only at hSw); go_simp; with_reducible rfl)
                  try simp only [Act.put, List.setIfInBounds_toArray, List.set_cons_zero, List.set_cons_succ, List.getElem_toArray, List.getElem_cons_succ, List.getElem_cons_zero]
                  refine wpAnyH_done (by kernel_rfl) ?_ _
                  have MZ0 := (B12.out.block (w.heap.size + 1) hn1).trans MR2.out
                  have MZ1 := heap_setCell_same w12 (w.heap.size + 1) 0 _ 25 (.slice (some ⟨g9, 0, none⟩) (rs.length + 1) cap9) MZ0
                  have MZ2 := heap_setCell_same _ (w.heap.size + 1) 1 _ 25 (.slice sl2 ps.length cap2) MZ1
                  have CZ := Lib.hid (((CO.out.below B12.out).keptB MZ0 (grown_set w12 (w.heap.size + 1) 0 (.slice (some ⟨g9, 0, none⟩) (rs.length + 1) cap9))).keptB MZ1 (grown_set _ (w.heap.size + 1) 1 (.slice sl2 ps.length cap2)))
                  have BZ := Lib.hid (((bT BT2.out B12.out).setCell (p := ⟨w.heap.size + 1, 0, none⟩) (by show w.heap.size ≤ w.heap.size + 1; omega) (.slice (some ⟨g9, 0, none⟩) (rs.length + 1) cap9)).setCell (p := ⟨w.heap.size + 1, 1, none⟩) (by show w.heap.size ≤ w.heap.size + 1; omega) (.slice sl2 ps.length cap2))
                  generalize (w12.setCell ⟨w.heap.size + 1, 0, none⟩ (.slice (some ⟨g9, 0, none⟩) (rs.length + 1) cap9)).setCell ⟨w.heap.size + 1, 1, none⟩ (.slice sl2 ps.length cap2) = w14 at *
                  have r0 : w14.cell? ⟨w.heap.size + 1, 0, none⟩ = some (.slice (some ⟨g9, 0, none⟩) (rs.length + 1) cap9) := by rw [(cellsAt MZ2).1]; rfl
                  have r1 : w14.cell? ⟨w.heap.size + 1, 1, none⟩ = some (.slice sl2 ps.length cap2) := by rw [(cellsAt MZ2).1]; rfl
                  go_wp2
                  exact bodyPost_ret (v := .tuple #[.agg #[.slice (some ⟨g9, 0, none⟩) (rs.length + 1) cap9, .slice sl2 ps.length cap2], .bool (B (TabR (rs ++ [(a, b, .slice (some ⟨g7, 0, none⟩) 0 0, ds)]) ps))]) (by simp [results, Tryd.results10, go_sem, r0, r1]) rfl (by rw [HMs.out]; exact LinePost.of (ok := B (TabR (rs ++ [(a, b, .slice (some ⟨g7, 0, none⟩) 0 0, ds)]) ps)) (rs := (rs ++ [(a, b, .slice (some ⟨g7, 0, none⟩) 0 0, ds)])) (ps := ps) ⟨_, _, rfl, CZ.out, BZ.out.mono hB, keep_below BZ.out⟩ (fun hy => HYes.out (HX.out.1 hxe) hy) (fun hn => HNot.out (fun h2 => by rw [B_yes h2.2] at hn; cases hn)))

                · have hxf : (XB.toList == s.toList) = false := by simpa using hxe
                  refine wp_region_held_drew (S := fun W => W.cell? ⟨wr.heap.size, 0, none⟩ = some (.slice (some ⟨g9, 0, none⟩) (rs.length + 1) cap9) ∧ W.cell? ⟨wr.heap.size, 1, none⟩ = some (.slice sl2 ps.length cap2) ∧ W.cell? ⟨wr.heap.size + 1, 0, none⟩ = some (.int .i64 a) ∧ W.cell? ⟨wr.heap.size + 1, 1, none⟩ = some (.int .i64 b) ∧ W.cell? ⟨wr.heap.size + 1, 2, none⟩ = some (.slice (some ⟨g7, 0, none⟩) 0 0)) (by kernel_rfl) ?_ (fun hHeld => ?_)
                  · exact KZ.out _ ((Below.refl _ _).drew)
                  refine wpAnyH_take (i := 0) (oi := _) (v := ?_) rfl (by kernel_rfl) (by kernel_rfl) (by kernel_rfl) (fun _ _ _ h => h) (Or.inl ⟨by rfl, ?_⟩) (by assumption) ?_
                  rotate_left
                  · first | (intro w hSw; (try dsimp only at hSw); go_simp; done) | (intro w hSw; (try dsimp only at hSw); go_simp; with_reducible rfl)
                  try simp only [Act.put, List.setIfInBounds_toArray, List.set_cons_zero, List.set_cons_succ, List.getElem_toArray, List.getElem_cons_zero]
                  refine wpAnyH_take (i := 1) (oi := _) (v := ?_) rfl (by kernel_rfl) (by kernel_rfl) (by kernel_rfl) (fun _ _ _ h => h) (Or.inl ⟨by rfl, ?_⟩) (by assumption) ?_
                  rotate_left
                  · first | (intro w hSw; (try dsimp only at hSw); go_simp; done) | (intro w hSw; (try dsimp only at hSw); go_simp; with_reducible rfl)
                  try simp only [Act.put, List.setIfInBounds_toArray, List.set_cons_zero, List.set_cons_succ, List.getElem_toArray, List.getElem_cons_succ, List.getElem_cons_zero]
                  refine wpAnyH_take (i := 3) (oi := _) (v := ?_) rfl (by kernel_rfl) (by kernel_rfl) (by kernel_rfl) (fun _ _ _ h => h) (Or.inl ⟨by rfl, ?_⟩) (by assumption) ?_
                  rotate_left
                  · first | (intro w hSw; (try dsimp only at hSw); go_simp; done) | (intro w hSw; (try dsimp only at hSw); go_simp; with_reducible rfl)
                  try simp only [Act.put, List.setIfInBounds_toArray, List.set_cons_zero, List.set_cons_succ, List.getElem_toArray, List.getElem_cons_succ, List.getElem_cons_zero]
                  refine wpAnyH_ready (rs := [2]) (by kernel_rfl) (by simp) ?_
                  refine AllReadyH.cons rfl (fun K hK => ?_) AllReadyH.nil
                  go_simp
                  go_wp2_with (go_at_call 17; refine (TS.out _ ((Below.refl _ _).drew)).mono ?_; rintro e w11 ⟨rfl, b11⟩; have B11 := Lib.hid (((Below.refl W2.heap.size W2).drew).trans b11); clear b11; have c11 := cellsAt ((B11.out.block (w.heap.size + 1) hn1).trans MR2.out))
                  refine hK.out _ _ ?_ (fun hHeld => ?_)
                  · exact KZ.out _ B11.out
                  clear hK K
                  refine wpAnyH_take (i := 4) (oi := _) (v := ?_) rfl (by kernel_rfl) (by kernel_rfl) (by kernel_rfl) (fun _ _ _ h => h) (Or.inl ⟨by rfl, ?_⟩) (by assumption) ?_
                  rotate_left
                  · first | (intro w hSw; (try dsimp only at hSw); go_simp; done) | (intro w hSw; (try dsimp only at hSw); go_simp; with_reducible rfl)
                  try simp only [Act.put, List.setIfInBounds_toArray, List.set_cons_zero, List.set_cons_succ, List.getElem_toArray, List.getElem_cons_succ, List.getElem_cons_zero]
                  refine wpAnyH_take (i := 5) (oi := _) (v := ?_) rfl (by kernel_rfl) (by kernel_rfl) (by kernel_rfl) (fun _ _ _ h => h) (Or.inl ⟨by rfl, ?_⟩) (by assumption) ?_
                  rotate_left
                  · first | (intro w hSw; (try dsimp only at hSw); go_simp; done) | (intro w hSw; (try dsimp only at hSw); go_simp; with_reducible rfl)
                  try simp only [Act.put, List.setIfInBounds_toArray, List.set_cons_zero, List.set_cons_succ, List.getElem_toArray, List.getElem_cons_succ, List.getElem_cons_zero]
                  refine wpAnyH_take (i := 6) (oi := _) (v := undef) rfl (by kernel_rfl) (by kernel_rfl) (by kernel_rfl) (fun _ _ _ h => h) (Or.inr ⟨by rfl, rfl⟩) (by assumption) ?_
                  try simp only [Act.put, List.setIfInBounds_toArray, List.set_cons_zero, List.set_cons_succ, List.getElem_toArray, List.getElem_cons_succ, List.getElem_cons_zero]
                  refine wpAnyH_take (i := 7) (oi := _) (v := undef) rfl (by kernel_rfl) (by kernel_rfl) (by kernel_rfl) (fun _ _ _ h => h) (Or.inr ⟨by rfl, rfl⟩) (by assumption) ?_
                  try simp only [Act.put, List.setIfInBounds_toArray, List.set_cons_zero, List.set_cons_succ, List.getElem_toArray, List.getElem_cons_succ, List.getElem_cons_zero]
                  refine wpAnyH_take (i := 8) (oi := _) (v := ?_) rfl (by kernel_rfl) (by kernel_rfl) (by kernel_rfl) (fun _ _ _ h => h) (Or.inl ⟨by rfl, ?_⟩) (by assumption) ?_
                  rotate_left
                  · first | (intro w hSw; (try dsimp only at hSw); go_simp; done) | (intro w hSw; (try dsimp only at hSw); go_simp; with_reducible rfl)
                  try simp only [Act.put, List.setIfInBounds_toArray, List.set_cons_zero, List.set_cons_succ, List.getElem_toArray, List.getElem_cons_succ, List.getElem_cons_zero]
                  refine wpAnyH_ready (rs := [9]) (by kernel_rfl) (by simp) ?_
                  refine AllReadyH.cons rfl (fun K hK => ?_) AllReadyH.nil
                  go_simp
                  go_wp2
                  refine hK.out _ _ ?_ (fun hHeld => ?_)
                  · exact (fun hX => ⟨(set2_cell _ _ _ _ _ _ (by omega)).trans hX.1, (set2_cell _ _ _ _ _ _ (by omega)).trans hX.2.1, (set2_cell _ _ _ _ _ _ (by omega)).trans hX.2.2.1, (set2_cell _ _ _ _ _ _ (by omega)).trans hX.2.2.2.1, (set2_cell _ _ _ _ _ _ (by omega)).trans hX.2.2.2.2⟩) (KZ.out _ B11.out)
                  clear hK K
                  refine wpAnyH_take (i := 10) (oi := _) (v := ?_) rfl (by kernel_rfl) (by kernel_rfl) (by kernel_rfl) (fun _ _ _ h => h) (Or.inl ⟨by rfl, ?_⟩) (by assumption) ?_
                  rotate_left
                  · first | (intro w hSw; (try dsimp only at hSw); go_simp; done) | (intro w hSw; (try dsimp only at hSw); go_simp; with_reducible rfl)
                  try simp only [Act.put, List.setIfInBounds_toArray, List.set_cons_zero, List.set_cons_succ, List.getElem_toArray, List.getElem_cons_succ, List.getElem_cons_zero]
                  refine wpAnyH_done (by kernel_rfl) ?_ _
                  have MZ0 := (B11.out.block (w.heap.size + 1) hn1).trans MR2.out
                  have MZ1 := heap_setCell_same w11 (w.heap.size + 1) 0 _ 25 (.slice (some ⟨g9, 0, none⟩) (rs.length + 1) cap9) MZ0
                  have MZ2 := heap_setCell_same _ (w.heap.size + 1) 1 _ 25 (.slice sl2 ps.length cap2) MZ1
                  have CZ := Lib.hid (((CO.out.below B11.out).keptB MZ0 (grown_set w11 (w.heap.size + 1) 0 (.slice (some ⟨g9, 0, none⟩) (rs.length + 1) cap9))).keptB MZ1 (grown_set _ (w.heap.size + 1) 1 (.slice sl2 ps.length cap2)))
                  have BZ := Lib.hid (((bT BT2.out B11.out).setCell (p := ⟨w.heap.size + 1, 0, none⟩) (by show w.heap.size ≤ w.heap.size + 1; omega) (.slice (some ⟨g9, 0, none⟩) (rs.length + 1) cap9)).setCell (p := ⟨w.heap.size + 1, 1, none⟩) (by show w.heap.size ≤ w.heap.size + 1; omega) (.slice sl2 ps.length cap2))
                  generalize (w11.setCell ⟨w.heap.size + 1, 0, none⟩ (.slice (some ⟨g9, 0, none⟩) (rs.length + 1) cap9)).setCell ⟨w.heap.size + 1, 1, none⟩ (.slice sl2 ps.length cap2) = w14 at *
                  have r0 : w14.cell? ⟨w.heap.size + 1, 0, none⟩ = some (.slice (some ⟨g9, 0, none⟩) (rs.length + 1) cap9) := by rw [(cellsAt MZ2).1]; rfl
                  have r1 : w14.cell? ⟨w.heap.size + 1, 1, none⟩ = some (.slice sl2 ps.length cap2) := by rw [(cellsAt MZ2).1]; rfl
                  go_wp2
                  exact bodyPost_ret (v := .tuple #[.agg #[.slice (some ⟨g9, 0, none⟩) (rs.length + 1) cap9, .slice sl2 ps.length cap2], .bool false]) (by simp [results, Tryd.results10, go_sem, r0, r1]) rfl (by rw [HMs.out]; exact LinePost.of (ok := false) (rs := (rs ++ [(a, b, .slice (some ⟨g7, 0, none⟩) 0 0, ds)])) (ps := ps) ⟨_, _, rfl, CZ.out, BZ.out.mono hB, keep_below BZ.out⟩ (fun hy => by cases hy) (fun _ => HNot.out (fun h2 => hxe (HX.out.2 h2.1))))
        · go_simp
          go_wp2
          refine hK.out _ _ ?_ (fun hHeld => ?_)
          · exact KS.out _ (BX15.out.alloc BX15.out.size _)
          clear hK K hHeld
          have BX20 := Lib.hid (BX15.out.alloc BX15.out.size (.cells #[.int .i64 a, .int .i64 b, .slice (some ⟨g7, 0, none⟩) 0 0] 43))
          have OX20 := Lib.hid (own_below OX15.out (bA0 w15_ (.cells #[.int .i64 a, .int .i64 b, .slice (some ⟨g7, 0, none⟩) 0 0] 43)))
          have SC20 := Lib.hid (cell_three_new w15_ (.int .i64 a) (.int .i64 b) (.slice (some ⟨g7, 0, none⟩) 0 0) 43)
          have hl20 : w15_.heap.size < (w15_.alloc (.cells #[.int .i64 a, .int .i64 b, .slice (some ⟨g7, 0, none⟩) 0 0] 43)).heap.size := by simp
          have hm20 := BX15.out.size
          have hb20 := Nat.lt_trans hb15 hl20
          generalize w15_.alloc (.cells #[.int .i64 a, .int .i64 b, .slice (some ⟨g7, 0, none⟩) 0 0] 43) = w20_ at *
          generalize w15_.heap.size = bk20 at *
          have hs20 := hl20
          refine wpAnyH_ready (rs := [3]) (by kernel_rfl) (by simp) ?_
          refine (AllReadyH.cons rfl (fun K hK => ?_) AllReadyH.nil)
          · refine step_append_own rfl (.tmp 64) (.tmp 66) 22 43 rfl iS (.agg #[.int .i64 0, .int .i64 0, .slice none 0 0]) 3 40 Tryd.underlying22 hiS hzS0 hzS1 hzS2 rfl (by decide) (by decide) W1.heap.size bk15 (by simp [Act.eval, Act.put]) OX20.out C (.slice sl1 rs.length cap1) rs.length (stC rs) (by simp [Act.eval, Act.put]) ((OT1.out.below (BX20.out)).r1) (stC_one rs (OT1.out.below (BX20.out)).dom) (by omega) BX20.out.size ?_
            intro x21_ y21_ w21_ on21 gn21
            have BX21 := Lib.hid (BX20.out.grown gn21 BX20.out.size (fun k hk => by cases hk; exact (World.ownsRow.lt OX20.out bk15 rfl).1))
            refine hK.out _ _ ?_ (fun hHeld => ?_)
            · exact KS.out _ BX21.out
            clear hK K hHeld
            have OX21 := Lib.hid on21
            have hne21 : bk20 ≠ bk15 := by omega
            have SC21 := Lib.hid (sc_below SC20.out hs20 (gn21.block bk20 hs20 (fun e => hne21 (Option.some.inj e))))
            have hs21 := Nat.lt_of_lt_of_le hs20 gn21.size
            clear on21 gn21
            refine wpAnyH_ready (rs := [6]) (by kernel_rfl) (by simp) ?_
            refine (AllReadyH.cons rfl (fun K hK => ?_) AllReadyH.nil)
            · refine step_append_lies _ rfl (.tmp 67) (.tmp 69) 22 rfl W1.heap.size 43 iS _ 3 40 Tryd.underlying22 hiS hzS0 hzS1 hzS2 rfl (by decide) (.slice x21_ rs.length y21_) rs.length (stC rs) (by simp [Act.eval, Act.put]) OX21.out ⟨bk20, 0, none⟩ 1 1 [.int .i64 a, .int .i64 b, .slice (some ⟨g7, 0, none⟩) 0 0] (by simp [Act.eval, Act.put]) rfl SC21.out (by simp [Value.oneCell']) (by decide) (by unfold maxLen; omega) (by omega) BX21.out.size _ rfl ?_
              intro g9 cap9 w22_ on22 gn22 hg22 hlt22
              have BX22 := Lib.hid (BX21.out.grown gn22 BX21.out.size (fun k hk => (World.ownsRow.lt OX21.out k hk).1))
              refine hK.out _ _ ?_ (fun hHeld => ?_)
              · exact KS.out _ BX22.out
              clear hK K hHeld
              have OX22 := Lib.hid on22
              clear on22 gn22 hg22 hlt22
              try simp only [Act.put, List.setIfInBounds_toArray, List.set_cons_zero, List.set_cons_succ, List.getElem_toArray, List.getElem_cons_succ, List.getElem_cons_zero]
              have hHeld := KS.out _ BX22.out
              refine wpAnyH_take (i := 7) (oi := _) (v := ?_) rfl (by kernel_rfl) (by kernel_rfl) (by kernel_rfl) (fun _ _ _ h => h) (Or.inl ⟨by rfl, ?_⟩) (by assumption) ?_
              rotate_left
              · first | (intro w hSw; (try dsimp only at hSw); go_simp; done) | (intro w hSw; (try dsimp only at hSw); go_simp; with_reducible rfl)
              try simp only [Act.put, List.setIfInBounds_toArray, List.set_cons_zero, List.set_cons_succ, List.getElem_toArray, List.getElem_cons_succ, List.getElem_cons_zero]
              clear hHeld
              refine wpAnyH_ready (rs := [8]) (by kernel_rfl) (by simp) ?_
              refine (AllReadyH.cons rfl (fun K hK => ?_) AllReadyH.nil)
              · have cO23 := cellsAt ((BX22.out.block wr.heap.size hobl).trans MO1.out)
                go_simp
                go_wp2
                refine hK.out _ _ ?_ (fun hHeld => ?_)
                · exact ⟨(World.cell?_of_block (Below.heap_setCell _ _ _ _ (by show w.heap.size ≠ wr.heap.size; omega))).trans (KS.out _ BX22.out).1, (World.cell?_of_block (Below.heap_setCell _ _ _ _ (by show wr.heap.size + 1 ≠ wr.heap.size; omega))).trans (KS.out _ BX22.out).2.1, (World.cell?_of_block (Below.heap_setCell _ _ _ _ (by show wr.heap.size + 1 ≠ wr.heap.size; omega))).trans (KS.out _ BX22.out).2.2.1, (World.cell?_of_block (Below.heap_setCell _ _ _ _ (by show wr.heap.size + 1 ≠ wr.heap.size; omega))).trans (KS.out _ BX22.out).2.2.2⟩
                clear hK K hHeld cO23
                refine wpAnyH_done (by kernel_rfl) ?_ _
                have MO2 := Lib.hid (heap_setCell_same w22_ wr.heap.size 0 _ 25 (.slice (some ⟨g9, 0, none⟩) (rs.length + 1) cap9) ((BX22.out.block wr.heap.size hobl).trans MO1.out))
                have MR2 := Lib.hid ((Below.heap_setCell w22_ ⟨wr.heap.size, 0, none⟩ (.slice (some ⟨g9, 0, none⟩) (rs.length + 1) cap9) (w.heap.size + 1) (by show w.heap.size + 1 ≠ wr.heap.size; omega)).trans ((BX22.out.block (w.heap.size + 1) hn1l).trans MR1.out))
                have MS2 := Lib.hid ((Below.heap_setCell w22_ ⟨wr.heap.size, 0, none⟩ (.slice (some ⟨g9, 0, none⟩) (rs.length + 1) cap9) (wr.heap.size + 1) (by show wr.heap.size + 1 ≠ wr.heap.size; omega)).trans ((BX22.out.block (wr.heap.size + 1) hsbl).trans MS1.out))
                have MOb := Lib.hid ((BX22.out.block wr.heap.size hobl).trans MO1.out)
                have CO : Hid (OwT (w22_.setCell ⟨wr.heap.size, 0, none⟩ (.slice (some ⟨g9, 0, none⟩) (rs.length + 1) cap9)) C (.slice (some ⟨g9, 0, none⟩) (rs.length + 1) cap9) (.slice sl2 ps.length cap2) (rs ++ [(a, b, .slice (some ⟨g7, 0, none⟩) 0 0, ds)]) ps) := by
                  have oo := OT1.out.below BX22.out
                  have gs := grown_set w22_ wr.heap.size 0 (.slice (some ⟨g9, 0, none⟩) (rs.length + 1) cap9)
                  refine ⟨?_, own_keptB oo.r2 MOb.out (by decide) gs, fun r hr => ?_, ?_⟩
                  · have := own_keptB (own_mono OX22.out hC1) MOb.out (by decide) gs
                    rw [List.length_append, stC_add]
                    exact this
                  · rcases List.mem_append.1 hr with hr | hr
                    · exact (oo.dom r hr).keptB MOb.out (by decide) gs
                    · rw [List.mem_singleton.1 hr]
                      exact (T1.out.below BX22.out).keptB MOb.out (by decide) gs
                  · refine List.pairwise_append.2 ⟨oo.diff, List.pairwise_singleton _ _, fun s' hs' t ht => ?_⟩
                    rw [List.mem_singleton.1 ht]
                    exact hFr s' hs'
                have BT2 := Lib.hid ((bT BN1.out BX22.out).setCell (p := ⟨wr.heap.size, 0, none⟩) (by show w.heap.size ≤ wr.heap.size; omega) (.slice (some ⟨g9, 0, none⟩) (rs.length + 1) cap9))
                have IZ := Lib.hid ((HZ1.out.below BX22.out))
                have hn1 : w.heap.size + 1 < (w22_.setCell ⟨wr.heap.size, 0, none⟩ (.slice (some ⟨g9, 0, none⟩) (rs.length + 1) cap9)).heap.size := (Array.getElem?_eq_some_iff.1 MR2.out).1
                have hl0 : wr.heap.size < (w22_.setCell ⟨wr.heap.size, 0, none⟩ (.slice (some ⟨g9, 0, none⟩) (rs.length + 1) cap9)).heap.size := (Array.getElem?_eq_some_iff.1 MO2.out).1
                have hl1 : wr.heap.size + 1 < (w22_.setCell ⟨wr.heap.size, 0, none⟩ (.slice (some ⟨g9, 0, none⟩) (rs.length + 1) cap9)).heap.size := (Array.getElem?_eq_some_iff.1 MS2.out).1
                have TL := Lib.hid ((CO.out.dom _ (List.mem_append_right _ (List.mem_singleton.2 rfl))).dm)
                generalize w22_.setCell ⟨wr.heap.size, 0, none⟩ (.slice (some ⟨g9, 0, none⟩) (rs.length + 1) cap9) = W2 at *
                have KZ : Hid (∀ W, Below W2.heap.size W2 W → W.cell? ⟨wr.heap.size, 0, none⟩ = some (.slice (some ⟨g9, 0, none⟩) (rs.length + 1) cap9) ∧ W.cell? ⟨wr.heap.size, 1, none⟩ = some (.slice sl2 ps.length cap2) ∧ W.cell? ⟨wr.heap.size + 1, 0, none⟩ = some (.int .i64 a) ∧ W.cell? ⟨wr.heap.size + 1, 1, none⟩ = some (.int .i64 b) ∧ W.cell? ⟨wr.heap.size + 1, 2, none⟩ = some (.slice (some ⟨g7, 0, none⟩) 0 0)) := fun W hW => ⟨(hW.cell hl0).trans (by rw [(cellsAt MO2.out).1]; rfl), (hW.cell hl0).trans (by rw [(cellsAt MO2.out).1]; rfl), (hW.cell hl1).trans (by rw [(cellsAt MS2.out).1]; rfl), (hW.cell hl1).trans (by rw [(cellsAt MS2.out).1]; rfl), (hW.cell hl1).trans (by rw [(cellsAt MS2.out).1]; rfl)⟩
                have TC : Hid (∀ W, Below W2.heap.size W2 W → Calls Tryd.prog 18 #[.agg #[.slice (some ⟨g9, 0, none⟩) (rs.length + 1) cap9, .slice sl2 ps.length cap2]] W fun e w' => e = .returned (.bool (B (TabR (rs ++ [(a, b, .slice (some ⟨g7, 0, none⟩) 0 0, ds)]) ps))) ∧ Below W.heap.size W w') := fun W hW => by
                  have hC := CO.out.below hW
                  obtain ⟨s1, k1, ev, hst⟩ := own_st hC
                  obtain ⟨s2, k2, ev2, hpr⟩ := own_pr hC
                  have := str_any s1 k1 s2 k2 _ _ W hst hpr
                  rw [ev, ev2]
                  exact this
                have TS : Hid (∀ W, Below W2.heap.size W2 W → Calls Tryd.prog 17 #[.agg #[.int .i64 a, .int .i64 b, .slice (some ⟨g7, 0, none⟩) 0 0]] W fun e w' => e = .returned (.string ⟨(statB a b ds).toArray⟩) ∧ Below W.heap.size W w') := fun W hW => by
                  obtain ⟨sx, cx, ex, ix, _⟩ := TL.out
                  have ex' : .slice (some ⟨g7, 0, none⟩) 0 0 = Value.slice sx ds.length cx := ex
                  have := stt_any a b sx cx ds W hab.out.1 hab.out.2.1 (by omega) hab.out.2.2 (ix.below hW)
                  rw [ex']
                  exact this
                have HX : Hid ((((⟨(statB a b ds).toArray⟩ : ByteArray).toList == s.toList) = true) ↔ staW ++ numsT z = s.data.toList) := by
                  show _ ↔ _
                  rw [beq_iff_eq, Go.ByteArray.toList_eq, Go.ByteArray.toList_eq, HZZ.out, ← stat_words]
                clear IZ
                generalize hXB : (⟨(statB a b ds).toArray⟩ : ByteArray) = XB at *
                clear hXB
                go_wp2_with fail
                by_cases hxe : (XB.toList == s.toList) = true
                · refine wp_region_held_drew (S := fun W => W.cell? ⟨wr.heap.size, 0, none⟩ = some (.slice (some ⟨g9, 0, none⟩) (rs.length + 1) cap9) ∧ W.cell? ⟨wr.heap.size, 1, none⟩ = some (.slice sl2 ps.length cap2) ∧ W.cell? ⟨wr.heap.size + 1, 0, none⟩ = some (.int .i64 a) ∧ W.cell? ⟨wr.heap.size + 1, 1, none⟩ = some (.int .i64 b) ∧ W.cell? ⟨wr.heap.size + 1, 2, none⟩ = some (.slice (some ⟨g7, 0, none⟩) 0 0)) (by kernel_rfl) ?_ (fun hHeld => ?_)
                  · exact KZ.out _ ((Below.refl _ _).drew)
                  refine wpAnyH_take (i := 0) (oi := _) (v := ?_) rfl (by kernel_rfl) (by kernel_rfl) (by kernel_rfl) (fun _ _ _ h => h) (Or.inl ⟨by rfl, ?_⟩) (by assumption) ?_
                  rotate_left
                  · first | (intro w hSw; (try dsimp only at hSw); go_simp; done) | (intro w hSw; (try dsimp only at hSw); go_simp; with_reducible rfl)
                  try simp only [Act.put, List.setIfInBounds_toArray, List.set_cons_zero, List.set_cons_succ, List.getElem_toArray, List.getElem_cons_zero]
                  refine wpAnyH_take (i := 1) (oi := _) (v := ?_) rfl (by kernel_rfl) (by kernel_rfl) (by kernel_rfl) (fun _ _ _ h => h) (Or.inl ⟨by rfl, ?_⟩) (by assumption) ?_
                  rotate_left
                  · first | (intro w hSw; (try dsimp only at hSw); go_simp; done) | (intro w hSw; (try dsimp only at hSw); go_simp; with_reducible rfl)
                  try simp only [Act.put, List.setIfInBounds_toArray, List.set_cons_zero, List.set_cons_succ, List.getElem_toArray, List.getElem_cons_succ, List.getElem_cons_zero]
                  refine wpAnyH_take (i := 3) (oi := _) (v := ?_) rfl (by kernel_rfl) (by kernel_rfl) (by kernel_rfl) (fun _ _ _ h => h) (Or.inl ⟨by rfl, ?_⟩) (by assumption) ?_
                  rotate_left
                  · first | (intro w hSw; (try dsimp only at hSw); go_simp; done) | (intro w hSw; (try dsimp only at hSw); go_simp; with_reducible rfl)
                  try simp only [Act.put, List.setIfInBounds_toArray, List.set_cons_zero, List.set_cons_succ, List.getElem_toArray, List.getElem_cons_succ, List.getElem_cons_zero]
                  refine wpAnyH_ready (rs := [2]) (by kernel_rfl) (by simp) ?_
                  refine AllReadyH.cons rfl (fun K hK => ?_) AllReadyH.nil
                  go_simp
                  go_wp2_with (go_at_call 17; refine (TS.out _ ((Below.refl _ _).drew)).mono ?_; rintro e w11 ⟨rfl, b11⟩; have B11 := Lib.hid (((Below.refl W2.heap.size W2).drew).trans b11); clear b11)
                  refine hK.out _ _ ?_ (fun hHeld => ?_)
                  · exact KZ.out _ B11.out
                  clear hK K
                  refine wpAnyH_take (i := 4) (oi := _) (v := ?_) rfl (by kernel_rfl) (by kernel_rfl) (by kernel_rfl) (fun _ _ _ h => h) (Or.inl ⟨by rfl, ?_⟩) (by assumption) ?_
                  rotate_left
                  · first | (intro w hSw; (try dsimp only at hSw); go_simp; done) | (intro w hSw; (try dsimp only at hSw); go_simp; with_reducible rfl)
                  try simp only [Act.put, List.setIfInBounds_toArray, List.set_cons_zero, List.set_cons_succ, List.getElem_toArray, List.getElem_cons_succ, List.getElem_cons_zero]
                  refine wpAnyH_take (i := 5) (oi := _) (v := ?_) rfl (by kernel_rfl) (by kernel_rfl) (by kernel_rfl) (fun _ _ _ h => h) (Or.inl ⟨by rfl, ?_⟩) (by assumption) ?_
                  rotate_left
                  · first | (intro w hSw; (try dsimp only at hSw); go_simp; done) | (intro w hSw; (try dsimp only at hSw); go_simp; with_reducible rfl)
                  try simp only [Act.put, List.setIfInBounds_toArray, List.set_cons_zero, List.set_cons_succ, List.getElem_toArray, List.getElem_cons_succ, List.getElem_cons_zero]
                  refine wpAnyH_take (i := 6) (oi := _) (v := ?_) rfl (by kernel_rfl) (by kernel_rfl) (by kernel_rfl) (fun _ _ _ h => h) (Or.inl ⟨by rfl, ?_⟩) (by assumption) ?_
                  rotate_left
                  · first | (intro w hSw; (try dsimp only at hSw); go_simp; done) | (intro w hSw; (try dsimp only at hSw); go_simp; with_reducible rfl)
                  try simp only [Act.put, List.setIfInBounds_toArray, List.set_cons_zero, List.set_cons_succ, List.getElem_toArray, List.getElem_cons_succ, List.getElem_cons_zero]
                  refine wpAnyH_ready (rs := [7]) (by kernel_rfl) (by simp) ?_
                  refine AllReadyH.cons rfl (fun K hK => ?_) AllReadyH.nil
                  go_simp
                  go_wp2_with (go_at_call 18; refine (TC.out _ B11.out).mono ?_; rintro e w12 ⟨rfl, b12⟩; have B12 := Lib.hid (bT B11.out b12); have c12 := cellsAt ((B12.out.block (w.heap.size + 1) hn1).trans MR2.out); clear b12)
                  refine hK.out _ _ ?_ (fun hHeld => ?_)
                  · exact KZ.out _ B12.out
                  clear hK K
                  refine wpAnyH_take (i := 8) (oi := _) (v := ?_) rfl (by kernel_rfl) (by kernel_rfl) (by kernel_rfl) (fun _ _ _ h => h) (Or.inl ⟨by rfl, ?_⟩) (by assumption) ?_
                  rotate_left
                  · first | (intro w hSw; (try dsimp only at hSw); go_simp; done) | (intro w hSw; (try dsimp only at hSw); go_simp; with_reducible rfl)
                  try simp only [Act.put, List.setIfInBounds_toArray, List.set_cons_zero, List.set_cons_succ, List.getElem_toArray, List.getElem_cons_succ, List.getElem_cons_zero]
                  refine wpAnyH_ready (rs := [9]) (by kernel_rfl) (by simp) ?_
                  refine AllReadyH.cons rfl (fun K hK => ?_) AllReadyH.nil
                  go_simp
                  go_wp2
                  refine hK.out _ _ ?_ (fun hHeld => ?_)
                  · exact (fun hX => ⟨(set2_cell _ _ _ _ _ _ (by omega)).trans hX.1, (set2_cell _ _ _ _ _ _ (by omega)).trans hX.2.1, (set2_cell _ _ _ _ _ _ (by omega)).trans hX.2.2.1, (set2_cell _ _ _ _ _ _ (by omega)).trans hX.2.2.2.1, (set2_cell _ _ _ _ _ _ (by omega)).trans hX.2.2.2.2⟩) (KZ.out _ B12.out)
                  clear hK K
                  refine wpAnyH_take (i := 10) (oi := _) (v := ?_) rfl (by kernel_rfl) (by kernel_rfl) (by kernel_rfl) (fun _ _ _ h => h) (Or.inl ⟨by rfl, ?_⟩) (by assumption) ?_
                  rotate_left
                  · first | (intro w hSw; (try dsimp only at hSw); go_simp; done) | (intro w hSw; (try dsimp only at hSw); go_simp; with_reducible rfl)
                  try simp only [Act.put, List.setIfInBounds_toArray, List.set_cons_zero, List.set_cons_succ, List.getElem_toArray, List.getElem_cons_succ, List.getElem_cons_zero]
                  refine wpAnyH_done (by kernel_rfl) ?_ _
                  have MZ0 := (B12.out.block (w.heap.size + 1) hn1).trans MR2.out
                  have MZ1 := heap_setCell_same w12 (w.heap.size + 1) 0 _ 25 (.slice (some ⟨g9, 0, none⟩) (rs.length + 1) cap9) MZ0
                  have MZ2 := heap_setCell_same _ (w.heap.size + 1) 1 _ 25 (.slice sl2 ps.length cap2) MZ1
                  have CZ := Lib.hid (((CO.out.below B12.out).keptB MZ0 (grown_set w12 (w.heap.size + 1) 0 (.slice (some ⟨g9, 0, none⟩) (rs.length + 1) cap9))).keptB MZ1 (grown_set _ (w.heap.size + 1) 1 (.slice sl2 ps.length cap2)))
                  have BZ := Lib.hid (((bT BT2.out B12.out).setCell (p := ⟨w.heap.size + 1, 0, none⟩) (by show w.heap.size ≤ w.heap.size + 1; omega) (.slice (some ⟨g9, 0, none⟩) (rs.length + 1) cap9)).setCell (p := ⟨w.heap.size + 1, 1, none⟩) (by show w.heap.size ≤ w.heap.size + 1; omega) (.slice sl2 ps.length cap2))
                  generalize (w12.setCell ⟨w.heap.size + 1, 0, none⟩ (.slice (some ⟨g9, 0, none⟩) (rs.length + 1) cap9)).setCell ⟨w.heap.size + 1, 1, none⟩ (.slice sl2 ps.length cap2) = w14 at *
                  have r0 : w14.cell? ⟨w.heap.size + 1, 0, none⟩ = some (.slice (some ⟨g9, 0, none⟩) (rs.length + 1) cap9) := by rw [(cellsAt MZ2).1]; rfl
                  have r1 : w14.cell? ⟨w.heap.size + 1, 1, none⟩ = some (.slice sl2 ps.length cap2) := by rw [(cellsAt MZ2).1]; rfl
                  go_wp2
                  exact bodyPost_ret (v := .tuple #[.agg #[.slice (some ⟨g9, 0, none⟩) (rs.length + 1) cap9, .slice sl2 ps.length cap2], .bool (B (TabR (rs ++ [(a, b, .slice (some ⟨g7, 0, none⟩) 0 0, ds)]) ps))]) (by simp [results, Tryd.results10, go_sem, r0, r1]) rfl (by rw [HMs.out]; exact LinePost.of (ok := B (TabR (rs ++ [(a, b, .slice (some ⟨g7, 0, none⟩) 0 0, ds)]) ps)) (rs := (rs ++ [(a, b, .slice (some ⟨g7, 0, none⟩) 0 0, ds)])) (ps := ps) ⟨_, _, rfl, CZ.out, BZ.out.mono hB, keep_below BZ.out⟩ (fun hy => HYes.out (HX.out.1 hxe) hy) (fun hn => HNot.out (fun h2 => by rw [B_yes h2.2] at hn; cases hn)))

                · have hxf : (XB.toList == s.toList) = false := by simpa using hxe
                  refine wp_region_held_drew (S := fun W => W.cell? ⟨wr.heap.size, 0, none⟩ = some (.slice (some ⟨g9, 0, none⟩) (rs.length + 1) cap9) ∧ W.cell? ⟨wr.heap.size, 1, none⟩ = some (.slice sl2 ps.length cap2) ∧ W.cell? ⟨wr.heap.size + 1, 0, none⟩ = some (.int .i64 a) ∧ W.cell? ⟨wr.heap.size + 1, 1, none⟩ = some (.int .i64 b) ∧ W.cell? ⟨wr.heap.size + 1, 2, none⟩ = some (.slice (some ⟨g7, 0, none⟩) 0 0)) (by kernel_rfl) ?_ (fun hHeld => ?_)
                  · exact KZ.out _ ((Below.refl _ _).drew)
                  refine wpAnyH_take (i := 0) (oi := _) (v := ?_) rfl (by kernel_rfl) (by kernel_rfl) (by kernel_rfl) (fun _ _ _ h => h) (Or.inl ⟨by rfl, ?_⟩) (by assumption) ?_
                  rotate_left
                  · first | (intro w hSw; (try dsimp only at hSw); go_simp; done) | (intro w hSw; (try dsimp only at hSw); go_simp; with_reducible rfl)
                  try simp only [Act.put, List.setIfInBounds_toArray, List.set_cons_zero, List.set_cons_succ, List.getElem_toArray, List.getElem_cons_zero]
                  refine wpAnyH_take (i := 1) (oi := _) (v := ?_) rfl (by kernel_rfl) (by kernel_rfl) (by kernel_rfl) (fun _ _ _ h => h) (Or.inl ⟨by rfl, ?_⟩) (by assumption) ?_
                  rotate_left
                  · first | (intro w hSw; (try dsimp only at hSw); go_simp; done) | (intro w hSw; (try dsimp only at hSw); go_simp; with_reducible rfl)
                  try simp only [Act.put, List.setIfInBounds_toArray, List.set_cons_zero, List.set_cons_succ, List.getElem_toArray, List.getElem_cons_succ, List.getElem_cons_zero]
                  refine wpAnyH_take (i := 3) (oi := _) (v := ?_) rfl (by kernel_rfl) (by kernel_rfl) (by kernel_rfl) (fun _ _ _ h => h) (Or.inl ⟨by rfl, ?_⟩) (by assumption) ?_
                  rotate_left
                  · first | (intro w hSw; (try dsimp only at hSw); go_simp; done) | (intro w hSw; (try dsimp only at hSw); go_simp; with_reducible rfl)
                  try simp only [Act.put, List.setIfInBounds_toArray, List.set_cons_zero, List.set_cons_succ, List.getElem_toArray, List.getElem_cons_succ, List.getElem_cons_zero]
                  refine wpAnyH_ready (rs := [2]) (by kernel_rfl) (by simp) ?_
                  refine AllReadyH.cons rfl (fun K hK => ?_) AllReadyH.nil
                  go_simp
                  go_wp2_with (go_at_call 17; refine (TS.out _ ((Below.refl _ _).drew)).mono ?_; rintro e w11 ⟨rfl, b11⟩; have B11 := Lib.hid (((Below.refl W2.heap.size W2).drew).trans b11); clear b11; have c11 := cellsAt ((B11.out.block (w.heap.size + 1) hn1).trans MR2.out))
                  refine hK.out _ _ ?_ (fun hHeld => ?_)
                  · exact KZ.out _ B11.out
                  clear hK K
                  refine wpAnyH_take (i := 4) (oi := _) (v := ?_) rfl (by kernel_rfl) (by kernel_rfl) (by kernel_rfl) (fun _ _ _ h => h) (Or.inl ⟨by rfl, ?_⟩) (by assumption) ?_
                  rotate_left
                  · first | (intro w hSw; (try dsimp only at hSw); go_simp; done) | (intro w hSw; (try dsimp only at hSw); go_simp; with_reducible rfl)
                  try simp only [Act.put, List.setIfInBounds_toArray, List.set_cons_zero, List.set_cons_succ, List.getElem_toArray, List.getElem_cons_succ, List.getElem_cons_zero]
                  refine wpAnyH_take (i := 5) (oi := _) (v := ?_) rfl (by kernel_rfl) (by kernel_rfl) (by kernel_rfl) (fun _ _ _ h => h) (Or.inl ⟨by rfl, ?_⟩) (by assumption) ?_
                  rotate_left
                  · first | (intro w hSw; (try dsimp only at hSw); go_simp; done) | (intro w hSw; (try dsimp only at hSw); go_simp; with_reducible rfl)
                  try simp only [Act.put, List.setIfInBounds_toArray, List.set_cons_zero, List.set_cons_succ, List.getElem_toArray, List.getElem_cons_succ, List.getElem_cons_zero]
                  refine wpAnyH_take (i := 6) (oi := _) (v := undef) rfl (by kernel_rfl) (by kernel_rfl) (by kernel_rfl) (fun _ _ _ h => h) (Or.inr ⟨by rfl, rfl⟩) (by assumption) ?_
                  try simp only [Act.put, List.setIfInBounds_toArray, List.set_cons_zero, List.set_cons_succ, List.getElem_toArray, List.getElem_cons_succ, List.getElem_cons_zero]
                  refine wpAnyH_take (i := 7) (oi := _) (v := undef) rfl (by kernel_rfl) (by kernel_rfl) (by kernel_rfl) (fun _ _ _ h => h) (Or.inr ⟨by rfl, rfl⟩) (by assumption) ?_
                  try simp only [Act.put, List.setIfInBounds_toArray, List.set_cons_zero, List.set_cons_succ, List.getElem_toArray, List.getElem_cons_succ, List.getElem_cons_zero]
                  refine wpAnyH_take (i := 8) (oi := _) (v := ?_) rfl (by kernel_rfl) (by kernel_rfl) (by kernel_rfl) (fun _ _ _ h => h) (Or.inl ⟨by rfl, ?_⟩) (by assumption) ?_
                  rotate_left
                  · first | (intro w hSw; (try dsimp only at hSw); go_simp; done) | (intro w hSw; (try dsimp only at hSw); go_simp; with_reducible rfl)
                  try simp only [Act.put, List.setIfInBounds_toArray, List.set_cons_zero, List.set_cons_succ, List.getElem_toArray, List.getElem_cons_succ, List.getElem_cons_zero]
                  refine wpAnyH_ready (rs := [9]) (by kernel_rfl) (by simp) ?_
                  refine AllReadyH.cons rfl (fun K hK => ?_) AllReadyH.nil
                  go_simp
                  go_wp2
                  refine hK.out _ _ ?_ (fun hHeld => ?_)
                  · exact (fun hX => ⟨(set2_cell _ _ _ _ _ _ (by omega)).trans hX.1, (set2_cell _ _ _ _ _ _ (by omega)).trans hX.2.1, (set2_cell _ _ _ _ _ _ (by omega)).trans hX.2.2.1, (set2_cell _ _ _ _ _ _ (by omega)).trans hX.2.2.2.1, (set2_cell _ _ _ _ _ _ (by omega)).trans hX.2.2.2.2⟩) (KZ.out _ B11.out)
                  clear hK K
                  refine wpAnyH_take (i := 10) (oi := _) (v := ?_) rfl (by kernel_rfl) (by kernel_rfl) (by kernel_rfl) (fun _ _ _ h => h) (Or.inl ⟨by rfl, ?_⟩) (by assumption) ?_
                  rotate_left
                  · first | (intro w hSw; (try dsimp only at hSw); go_simp; done) | (intro w hSw; (try dsimp only at hSw); go_simp; with_reducible rfl)
                  try simp only [Act.put, List.setIfInBounds_toArray, List.set_cons_zero, List.set_cons_succ, List.getElem_toArray, List.getElem_cons_succ, List.getElem_cons_zero]
                  refine wpAnyH_done (by kernel_rfl) ?_ _
                  have MZ0 := (B11.out.block (w.heap.size + 1) hn1).trans MR2.out
                  have MZ1 := heap_setCell_same w11 (w.heap.size + 1) 0 _ 25 (.slice (some ⟨g9, 0, none⟩) (rs.length + 1) cap9) MZ0
                  have MZ2 := heap_setCell_same _ (w.heap.size + 1) 1 _ 25 (.slice sl2 ps.length cap2) MZ1
                  have CZ := Lib.hid (((CO.out.below B11.out).keptB MZ0 (grown_set w11 (w.heap.size + 1) 0 (.slice (some ⟨g9, 0, none⟩) (rs.length + 1) cap9))).keptB MZ1 (grown_set _ (w.heap.size + 1) 1 (.slice sl2 ps.length cap2)))
                  have BZ := Lib.hid (((bT BT2.out B11.out).setCell (p := ⟨w.heap.size + 1, 0, none⟩) (by show w.heap.size ≤ w.heap.size + 1; omega) (.slice (some ⟨g9, 0, none⟩) (rs.length + 1) cap9)).setCell (p := ⟨w.heap.size + 1, 1, none⟩) (by show w.heap.size ≤ w.heap.size + 1; omega) (.slice sl2 ps.length cap2))
                  generalize (w11.setCell ⟨w.heap.size + 1, 0, none⟩ (.slice (some ⟨g9, 0, none⟩) (rs.length + 1) cap9)).setCell ⟨w.heap.size + 1, 1, none⟩ (.slice sl2 ps.length cap2) = w14 at *
                  have r0 : w14.cell? ⟨w.heap.size + 1, 0, none⟩ = some (.slice (some ⟨g9, 0, none⟩) (rs.length + 1) cap9) := by rw [(cellsAt MZ2).1]; rfl
                  have r1 : w14.cell? ⟨w.heap.size + 1, 1, none⟩ = some (.slice sl2 ps.length cap2) := by rw [(cellsAt MZ2).1]; rfl
                  go_wp2
                  exact bodyPost_ret (v := .tuple #[.agg #[.slice (some ⟨g9, 0, none⟩) (rs.length + 1) cap9, .slice sl2 ps.length cap2], .bool false]) (by simp [results, Tryd.results10, go_sem, r0, r1]) rfl (by rw [HMs.out]; exact LinePost.of (ok := false) (rs := (rs ++ [(a, b, .slice (some ⟨g7, 0, none⟩) 0 0, ds)])) (ps := ps) ⟨_, _, rfl, CZ.out, BZ.out.mono hB, keep_below BZ.out⟩ (fun hy => by cases hy) (fun _ => HNot.out (fun h2 => hxe (HX.out.2 h2.1))))
      · go_simp
        go_wp2
        refine hK.out _ _ ?_ (fun hHeld => ?_)
        · exact KS.out _ (BD.out.alloc BD.out.size _)
        clear hK K hHeld
        have BX24 := Lib.hid (BD.out.alloc BD.out.size (.cells #[.int .i64 a, .int .i64 b, .slice (some ⟨g7, 0, none⟩) 0 0] 43))
        have SC24 := Lib.hid (cell_three_new wd (.int .i64 a) (.int .i64 b) (.slice (some ⟨g7, 0, none⟩) 0 0) 43)
        have hl24 : wd.heap.size < (wd.alloc (.cells #[.int .i64 a, .int .i64 b, .slice (some ⟨g7, 0, none⟩) 0 0] 43)).heap.size := by simp
        have hm24 := BD.out.size
        generalize wd.alloc (.cells #[.int .i64 a, .int .i64 b, .slice (some ⟨g7, 0, none⟩) 0 0] 43) = w24_ at *
        generalize wd.heap.size = bk24 at *
        have hs24 := hl24
        refine wpAnyH_ready (rs := [0]) (by kernel_rfl) (by simp) ?_
        refine (AllReadyH.cons rfl (fun K hK => ?_) AllReadyH.nil)
        · go_simp
          go_wp2
          refine hK.out _ _ ?_ (fun hHeld => ?_)
          · exact KS.out _ (BX24.out.alloc BX24.out.size _)
          clear hK K hHeld
          have BX25 := Lib.hid (BX24.out.alloc BX24.out.size (.cells #[] 43))
          have OX25 := Lib.hid (own_mono (own_lit0 w24_ 43 3) BX24.out.size)
          have SC25 := Lib.hid (sc_below SC24.out hs24 ((bA0 w24_ (.cells #[] 43)).block bk24 hs24))
          have hl25 : w24_.heap.size < (w24_.alloc (.cells #[] 43)).heap.size := by simp
          have hm25 := BX24.out.size
          have hs25 := Nat.lt_trans hs24 hl25
          generalize w24_.alloc (.cells #[] 43) = w25_ at *
          generalize w24_.heap.size = bk25 at *
          have hb25 := hl25
          refine wpAnyH_ready (rs := [3]) (by kernel_rfl) (by simp) ?_
          refine (AllReadyH.cons rfl (fun K hK => ?_) AllReadyH.nil)
          · refine step_append_own rfl (.tmp 64) (.tmp 66) 22 43 rfl iS (.agg #[.int .i64 0, .int .i64 0, .slice none 0 0]) 3 40 Tryd.underlying22 hiS hzS0 hzS1 hzS2 rfl (by decide) (by decide) W1.heap.size bk25 (by simp [Act.eval, Act.put]) OX25.out C (.slice sl1 rs.length cap1) rs.length (stC rs) (by simp [Act.eval, Act.put]) ((OT1.out.below (BX25.out)).r1) (stC_one rs (OT1.out.below (BX25.out)).dom) (by omega) BX25.out.size ?_
            intro x26_ y26_ w26_ on26 gn26
            have BX26 := Lib.hid (BX25.out.grown gn26 BX25.out.size (fun k hk => by cases hk; exact (World.ownsRow.lt OX25.out bk25 rfl).1))
            refine hK.out _ _ ?_ (fun hHeld => ?_)
            · exact KS.out _ BX26.out
            clear hK K hHeld
            have OX26 := Lib.hid on26
            have hne26 : bk24 ≠ bk25 := by omega
            have SC26 := Lib.hid (sc_below SC25.out hs25 (gn26.block bk24 hs25 (fun e => hne26 (Option.some.inj e))))
            have hs26 := Nat.lt_of_lt_of_le hs25 gn26.size
            clear on26 gn26
            refine wpAnyH_ready (rs := [6]) (by kernel_rfl) (by simp) ?_
            refine (AllReadyH.cons rfl (fun K hK => ?_) AllReadyH.nil)
            · refine step_append_lies _ rfl (.tmp 67) (.tmp 69) 22 rfl W1.heap.size 43 iS _ 3 40 Tryd.underlying22 hiS hzS0 hzS1 hzS2 rfl (by decide) (.slice x26_ rs.length y26_) rs.length (stC rs) (by simp [Act.eval, Act.put]) OX26.out ⟨bk24, 0, none⟩ 1 1 [.int .i64 a, .int .i64 b, .slice (some ⟨g7, 0, none⟩) 0 0] (by simp [Act.eval, Act.put]) rfl SC26.out (by simp [Value.oneCell']) (by decide) (by unfold maxLen; omega) (by omega) BX26.out.size _ rfl ?_
              intro g9 cap9 w27_ on27 gn27 hg27 hlt27
              have BX27 := Lib.hid (BX26.out.grown gn27 BX26.out.size (fun k hk => (World.ownsRow.lt OX26.out k hk).1))
              refine hK.out _ _ ?_ (fun hHeld => ?_)
              · exact KS.out _ BX27.out
              clear hK K hHeld
              have OX27 := Lib.hid on27
              clear on27 gn27 hg27 hlt27
              try simp only [Act.put, List.setIfInBounds_toArray, List.set_cons_zero, List.set_cons_succ, List.getElem_toArray, List.getElem_cons_succ, List.getElem_cons_zero]
              have hHeld := KS.out _ BX27.out
              refine wpAnyH_take (i := 7) (oi := _) (v := ?_) rfl (by kernel_rfl) (by kernel_rfl) (by kernel_rfl) (fun _ _ _ h => h) (Or.inl ⟨by rfl, ?_⟩) (by assumption) ?_
              rotate_left
              · first | (intro w hSw; (try dsimp only at hSw); go_simp; done) | (intro w hSw; (try dsimp only at hSw); go_simp; with_reducible rfl)
              try simp only [Act.put, List.setIfInBounds_toArray, List.set_cons_zero, List.set_cons_succ, List.getElem_toArray, List.getElem_cons_succ, List.getElem_cons_zero]
              clear hHeld
              refine wpAnyH_ready (rs := [8]) (by kernel_rfl) (by simp) ?_
              refine (AllReadyH.cons rfl (fun K hK => ?_) AllReadyH.nil)
              · have cO28 := cellsAt ((BX27.out.block wr.heap.size hobl).trans MO1.out)
                go_simp
                go_wp2
                refine hK.out _ _ ?_ (fun hHeld => ?_)
                · exact ⟨(World.cell?_of_block (Below.heap_setCell _ _ _ _ (by show w.heap.size ≠ wr.heap.size; omega))).trans (KS.out _ BX27.out).1, (World.cell?_of_block (Below.heap_setCell _ _ _ _ (by show wr.heap.size + 1 ≠ wr.heap.size; omega))).trans (KS.out _ BX27.out).2.1, (World.cell?_of_block (Below.heap_setCell _ _ _ _ (by show wr.heap.size + 1 ≠ wr.heap.size; omega))).trans (KS.out _ BX27.out).2.2.1, (World.cell?_of_block (Below.heap_setCell _ _ _ _ (by show wr.heap.size + 1 ≠ wr.heap.size; omega))).trans (KS.out _ BX27.out).2.2.2⟩
                clear hK K hHeld cO28
                refine wpAnyH_done (by kernel_rfl) ?_ _
                have MO2 := Lib.hid (heap_setCell_same w27_ wr.heap.size 0 _ 25 (.slice (some ⟨g9, 0, none⟩) (rs.length + 1) cap9) ((BX27.out.block wr.heap.size hobl).trans MO1.out))
                have MR2 := Lib.hid ((Below.heap_setCell w27_ ⟨wr.heap.size, 0, none⟩ (.slice (some ⟨g9, 0, none⟩) (rs.length + 1) cap9) (w.heap.size + 1) (by show w.heap.size + 1 ≠ wr.heap.size; omega)).trans ((BX27.out.block (w.heap.size + 1) hn1l).trans MR1.out))
                have MS2 := Lib.hid ((Below.heap_setCell w27_ ⟨wr.heap.size, 0, none⟩ (.slice (some ⟨g9, 0, none⟩) (rs.length + 1) cap9) (wr.heap.size + 1) (by show wr.heap.size + 1 ≠ wr.heap.size; omega)).trans ((BX27.out.block (wr.heap.size + 1) hsbl).trans MS1.out))
                have MOb := Lib.hid ((BX27.out.block wr.heap.size hobl).trans MO1.out)
                have CO : Hid (OwT (w27_.setCell ⟨wr.heap.size, 0, none⟩ (.slice (some ⟨g9, 0, none⟩) (rs.length + 1) cap9)) C (.slice (some ⟨g9, 0, none⟩) (rs.length + 1) cap9) (.slice sl2 ps.length cap2) (rs ++ [(a, b, .slice (some ⟨g7, 0, none⟩) 0 0, ds)]) ps) := by
                  have oo := OT1.out.below BX27.out
                  have gs := grown_set w27_ wr.heap.size 0 (.slice (some ⟨g9, 0, none⟩) (rs.length + 1) cap9)
                  refine ⟨?_, own_keptB oo.r2 MOb.out (by decide) gs, fun r hr => ?_, ?_⟩
                  · have := own_keptB (own_mono OX27.out hC1) MOb.out (by decide) gs
                    rw [List.length_append, stC_add]
                    exact this
                  · rcases List.mem_append.1 hr with hr | hr
                    · exact (oo.dom r hr).keptB MOb.out (by decide) gs
                    · rw [List.mem_singleton.1 hr]
                      exact (T1.out.below BX27.out).keptB MOb.out (by decide) gs
                  · refine List.pairwise_append.2 ⟨oo.diff, List.pairwise_singleton _ _, fun s' hs' t ht => ?_⟩
                    rw [List.mem_singleton.1 ht]
                    exact hFr s' hs'
                have BT2 := Lib.hid ((bT BN1.out BX27.out).setCell (p := ⟨wr.heap.size, 0, none⟩) (by show w.heap.size ≤ wr.heap.size; omega) (.slice (some ⟨g9, 0, none⟩) (rs.length + 1) cap9))
                have IZ := Lib.hid ((HZ1.out.below BX27.out))
                have hn1 : w.heap.size + 1 < (w27_.setCell ⟨wr.heap.size, 0, none⟩ (.slice (some ⟨g9, 0, none⟩) (rs.length + 1) cap9)).heap.size := (Array.getElem?_eq_some_iff.1 MR2.out).1
                have hl0 : wr.heap.size < (w27_.setCell ⟨wr.heap.size, 0, none⟩ (.slice (some ⟨g9, 0, none⟩) (rs.length + 1) cap9)).heap.size := (Array.getElem?_eq_some_iff.1 MO2.out).1
                have hl1 : wr.heap.size + 1 < (w27_.setCell ⟨wr.heap.size, 0, none⟩ (.slice (some ⟨g9, 0, none⟩) (rs.length + 1) cap9)).heap.size := (Array.getElem?_eq_some_iff.1 MS2.out).1
                have TL := Lib.hid ((CO.out.dom _ (List.mem_append_right _ (List.mem_singleton.2 rfl))).dm)
                generalize w27_.setCell ⟨wr.heap.size, 0, none⟩ (.slice (some ⟨g9, 0, none⟩) (rs.length + 1) cap9) = W2 at *
                have KZ : Hid (∀ W, Below W2.heap.size W2 W → W.cell? ⟨wr.heap.size, 0, none⟩ = some (.slice (some ⟨g9, 0, none⟩) (rs.length + 1) cap9) ∧ W.cell? ⟨wr.heap.size, 1, none⟩ = some (.slice sl2 ps.length cap2) ∧ W.cell? ⟨wr.heap.size + 1, 0, none⟩ = some (.int .i64 a) ∧ W.cell? ⟨wr.heap.size + 1, 1, none⟩ = some (.int .i64 b) ∧ W.cell? ⟨wr.heap.size + 1, 2, none⟩ = some (.slice (some ⟨g7, 0, none⟩) 0 0)) := fun W hW => ⟨(hW.cell hl0).trans (by rw [(cellsAt MO2.out).1]; rfl), (hW.cell hl0).trans (by rw [(cellsAt MO2.out).1]; rfl), (hW.cell hl1).trans (by rw [(cellsAt MS2.out).1]; rfl), (hW.cell hl1).trans (by rw [(cellsAt MS2.out).1]; rfl), (hW.cell hl1).trans (by rw [(cellsAt MS2.out).1]; rfl)⟩
                have TC : Hid (∀ W, Below W2.heap.size W2 W → Calls Tryd.prog 18 #[.agg #[.slice (some ⟨g9, 0, none⟩) (rs.length + 1) cap9, .slice sl2 ps.length cap2]] W fun e w' => e = .returned (.bool (B (TabR (rs ++ [(a, b, .slice (some ⟨g7, 0, none⟩) 0 0, ds)]) ps))) ∧ Below W.heap.size W w') := fun W hW => by
                  have hC := CO.out.below hW
                  obtain ⟨s1, k1, ev, hst⟩ := own_st hC
                  obtain ⟨s2, k2, ev2, hpr⟩ := own_pr hC
                  have := str_any s1 k1 s2 k2 _ _ W hst hpr
                  rw [ev, ev2]
                  exact this
                have TS : Hid (∀ W, Below W2.heap.size W2 W → Calls Tryd.prog 17 #[.agg #[.int .i64 a, .int .i64 b, .slice (some ⟨g7, 0, none⟩) 0 0]] W fun e w' => e = .returned (.string ⟨(statB a b ds).toArray⟩) ∧ Below W.heap.size W w') := fun W hW => by
                  obtain ⟨sx, cx, ex, ix, _⟩ := TL.out
                  have ex' : .slice (some ⟨g7, 0, none⟩) 0 0 = Value.slice sx ds.length cx := ex
                  have := stt_any a b sx cx ds W hab.out.1 hab.out.2.1 (by omega) hab.out.2.2 (ix.below hW)
                  rw [ex']
                  exact this
                have HX : Hid ((((⟨(statB a b ds).toArray⟩ : ByteArray).toList == s.toList) = true) ↔ staW ++ numsT z = s.data.toList) := by
                  show _ ↔ _
                  rw [beq_iff_eq, Go.ByteArray.toList_eq, Go.ByteArray.toList_eq, HZZ.out, ← stat_words]
                clear IZ
                generalize hXB : (⟨(statB a b ds).toArray⟩ : ByteArray) = XB at *
                clear hXB
                go_wp2_with fail
                by_cases hxe : (XB.toList == s.toList) = true
                · refine wp_region_held_drew (S := fun W => W.cell? ⟨wr.heap.size, 0, none⟩ = some (.slice (some ⟨g9, 0, none⟩) (rs.length + 1) cap9) ∧ W.cell? ⟨wr.heap.size, 1, none⟩ = some (.slice sl2 ps.length cap2) ∧ W.cell? ⟨wr.heap.size + 1, 0, none⟩ = some (.int .i64 a) ∧ W.cell? ⟨wr.heap.size + 1, 1, none⟩ = some (.int .i64 b) ∧ W.cell? ⟨wr.heap.size + 1, 2, none⟩ = some (.slice (some ⟨g7, 0, none⟩) 0 0)) (by kernel_rfl) ?_ (fun hHeld => ?_)
                  · exact KZ.out _ ((Below.refl _ _).drew)
                  refine wpAnyH_take (i := 0) (oi := _) (v := ?_) rfl (by kernel_rfl) (by kernel_rfl) (by kernel_rfl) (fun _ _ _ h => h) (Or.inl ⟨by rfl, ?_⟩) (by assumption) ?_
                  rotate_left
                  · first | (intro w hSw; (try dsimp only at hSw); go_simp; done) | (intro w hSw; (try dsimp only at hSw); go_simp; with_reducible rfl)
                  try simp only [Act.put, List.setIfInBounds_toArray, List.set_cons_zero, List.set_cons_succ, List.getElem_toArray, List.getElem_cons_zero]
                  refine wpAnyH_take (i := 1) (oi := _) (v := ?_) rfl (by kernel_rfl) (by kernel_rfl) (by kernel_rfl) (fun _ _ _ h => h) (Or.inl ⟨by rfl, ?_⟩) (by assumption) ?_
                  rotate_left
                  · first | (intro w hSw; (try dsimp only at hSw); go_simp; done) | (intro w hSw; (try dsimp only at hSw); go_simp; with_reducible rfl)
                  try simp only [Act.put, List.setIfInBounds_toArray, List.set_cons_zero, List.set_cons_succ, List.getElem_toArray, List.getElem_cons_succ, List.getElem_cons_zero]
                  refine wpAnyH_take (i := 3) (oi := _) (v := ?_) rfl (by kernel_rfl) (by kernel_rfl) (by kernel_rfl) (fun _ _ _ h => h) (Or.inl ⟨by rfl, ?_⟩) (by assumption) ?_
                  rotate_left
                  · first | (intro w hSw; (try dsimp only at hSw); go_simp; done) | (intro w hSw; (try dsimp only at hSw); go_simp; with_reducible rfl)
                  try simp only [Act.put, List.setIfInBounds_toArray, List.set_cons_zero, List.set_cons_succ, List.getElem_toArray, List.getElem_cons_succ, List.getElem_cons_zero]
                  refine wpAnyH_ready (rs := [2]) (by kernel_rfl) (by simp) ?_
                  refine AllReadyH.cons rfl (fun K hK => ?_) AllReadyH.nil
                  go_simp
                  go_wp2_with (go_at_call 17; refine (TS.out _ ((Below.refl _ _).drew)).mono ?_; rintro e w11 ⟨rfl, b11⟩; have B11 := Lib.hid (((Below.refl W2.heap.size W2).drew).trans b11); clear b11)
                  refine hK.out _ _ ?_ (fun hHeld => ?_)
                  · exact KZ.out _ B11.out
                  clear hK K
                  refine wpAnyH_take (i := 4) (oi := _) (v := ?_) rfl (by kernel_rfl) (by kernel_rfl) (by kernel_rfl) (fun _ _ _ h => h) (Or.inl ⟨by rfl, ?_⟩) (by assumption) ?_
                  rotate_left
                  · first | (intro w hSw; (try dsimp only at hSw); go_simp; done) | (intro w hSw; (try dsimp only at hSw); go_simp; with_reducible rfl)
                  try simp only [Act.put, List.setIfInBounds_toArray, List.set_cons_zero, List.set_cons_succ, List.getElem_toArray, List.getElem_cons_succ, List.getElem_cons_zero]
                  refine wpAnyH_take (i := 5) (oi := _) (v := ?_) rfl (by kernel_rfl) (by kernel_rfl) (by kernel_rfl) (fun _ _ _ h => h) (Or.inl ⟨by rfl, ?_⟩) (by assumption) ?_
                  rotate_left
                  · first | (intro w hSw; (try dsimp only at hSw); go_simp; done) | (intro w hSw; (try dsimp only at hSw); go_simp; with_reducible rfl)
                  try simp only [Act.put, List.setIfInBounds_toArray, List.set_cons_zero, List.set_cons_succ, List.getElem_toArray, List.getElem_cons_succ, List.getElem_cons_zero]
                  refine wpAnyH_take (i := 6) (oi := _) (v := ?_) rfl (by kernel_rfl) (by kernel_rfl) (by kernel_rfl) (fun _ _ _ h => h) (Or.inl ⟨by rfl, ?_⟩) (by assumption) ?_
                  rotate_left
                  · first | (intro w hSw; (try dsimp only at hSw); go_simp; done) | (intro w hSw; (try dsimp only at hSw); go_simp; with_reducible rfl)
                  try simp only [Act.put, List.setIfInBounds_toArray, List.set_cons_zero, List.set_cons_succ, List.getElem_toArray, List.getElem_cons_succ, List.getElem_cons_zero]
                  refine wpAnyH_ready (rs := [7]) (by kernel_rfl) (by simp) ?_
                  refine AllReadyH.cons rfl (fun K hK => ?_) AllReadyH.nil
                  go_simp
                  go_wp2_with (go_at_call 18; refine (TC.out _ B11.out).mono ?_; rintro e w12 ⟨rfl, b12⟩; have B12 := Lib.hid (bT B11.out b12); have c12 := cellsAt ((B12.out.block (w.heap.size + 1) hn1).trans MR2.out); clear b12)
                  refine hK.out _ _ ?_ (fun hHeld => ?_)
                  · exact KZ.out _ B12.out
                  clear hK K
                  refine wpAnyH_take (i := 8) (oi := _) (v := ?_) rfl (by kernel_rfl) (by kernel_rfl) (by kernel_rfl) (fun _ _ _ h => h) (Or.inl ⟨by rfl, ?_⟩) (by assumption) ?_
                  rotate_left
                  · first | (intro w hSw; (try dsimp only at hSw); go_simp; done) | (intro w hSw; (try dsimp only at hSw); go_simp; with_reducible rfl)
                  try simp only [Act.put, List.setIfInBounds_toArray, List.set_cons_zero, List.set_cons_succ, List.getElem_toArray, List.getElem_cons_succ, List.getElem_cons_zero]
                  refine wpAnyH_ready (rs := [9]) (by kernel_rfl) (by simp) ?_
                  refine AllReadyH.cons rfl (fun K hK => ?_) AllReadyH.nil
                  go_simp
                  go_wp2
                  refine hK.out _ _ ?_ (fun hHeld => ?_)
                  · exact (fun hX => ⟨(set2_cell _ _ _ _ _ _ (by omega)).trans hX.1, (set2_cell _ _ _ _ _ _ (by omega)).trans hX.2.1, (set2_cell _ _ _ _ _ _ (by omega)).trans hX.2.2.1, (set2_cell _ _ _ _ _ _ (by omega)).trans hX.2.2.2.1, (set2_cell _ _ _ _ _ _ (by omega)).trans hX.2.2.2.2⟩) (KZ.out _ B12.out)
                  clear hK K
                  refine wpAnyH_take (i := 10) (oi := _) (v := ?_) rfl (by kernel_rfl) (by kernel_rfl) (by kernel_rfl) (fun _ _ _ h => h) (Or.inl ⟨by rfl, ?_⟩) (by assumption) ?_
                  rotate_left
                  · first | (intro w hSw; (try dsimp only at hSw); go_simp; done) | (intro w hSw; (try dsimp only at hSw); go_simp; with_reducible rfl)
                  try simp only [Act.put, List.setIfInBounds_toArray, List.set_cons_zero, List.set_cons_succ, List.getElem_toArray, List.getElem_cons_succ, List.getElem_cons_zero]
                  refine wpAnyH_done (by kernel_rfl) ?_ _
                  have MZ0 := (B12.out.block (w.heap.size + 1) hn1).trans MR2.out
                  have MZ1 := heap_setCell_same w12 (w.heap.size + 1) 0 _ 25 (.slice (some ⟨g9, 0, none⟩) (rs.length + 1) cap9) MZ0
                  have MZ2 := heap_setCell_same _ (w.heap.size + 1) 1 _ 25 (.slice sl2 ps.length cap2) MZ1
                  have CZ := Lib.hid (((CO.out.below B12.out).keptB MZ0 (grown_set w12 (w.heap.size + 1) 0 (.slice (some ⟨g9, 0, none⟩) (rs.length + 1) cap9))).keptB MZ1 (grown_set _ (w.heap.size + 1) 1 (.slice sl2 ps.length cap2)))
                  have BZ := Lib.hid (((bT BT2.out B12.out).setCell (p := ⟨w.heap.size + 1, 0, none⟩) (by show w.heap.size ≤ w.heap.size + 1; omega) (.slice (some ⟨g9, 0, none⟩) (rs.length + 1) cap9)).setCell (p := ⟨w.heap.size + 1, 1, none⟩) (by show w.heap.size ≤ w.heap.size + 1; omega) (.slice sl2 ps.length cap2))
                  generalize (w12.setCell ⟨w.heap.size + 1, 0, none⟩ (.slice (some ⟨g9, 0, none⟩) (rs.length + 1) cap9)).setCell ⟨w.heap.size + 1, 1, none⟩ (.slice sl2 ps.length cap2) = w14 at *
                  have r0 : w14.cell? ⟨w.heap.size + 1, 0, none⟩ = some (.slice (some ⟨g9, 0, none⟩) (rs.length + 1) cap9) := by rw [(cellsAt MZ2).1]; rfl
                  have r1 : w14.cell? ⟨w.heap.size + 1, 1, none⟩ = some (.slice sl2 ps.length cap2) := by rw [(cellsAt MZ2).1]; rfl
                  go_wp2
                  exact bodyPost_ret (v := .tuple #[.agg #[.slice (some ⟨g9, 0, none⟩) (rs.length + 1) cap9, .slice sl2 ps.length cap2], .bool (B (TabR (rs ++ [(a, b, .slice (some ⟨g7, 0, none⟩) 0 0, ds)]) ps))]) (by simp [results, Tryd.results10, go_sem, r0, r1]) rfl (by rw [HMs.out]; exact LinePost.of (ok := B (TabR (rs ++ [(a, b, .slice (some ⟨g7, 0, none⟩) 0 0, ds)]) ps)) (rs := (rs ++ [(a, b, .slice (some ⟨g7, 0, none⟩) 0 0, ds)])) (ps := ps) ⟨_, _, rfl, CZ.out, BZ.out.mono hB, keep_below BZ.out⟩ (fun hy => HYes.out (HX.out.1 hxe) hy) (fun hn => HNot.out (fun h2 => by rw [B_yes h2.2] at hn; cases hn)))

                · have hxf : (XB.toList == s.toList) = false := by simpa using hxe
                  refine wp_region_held_drew (S := fun W => W.cell? ⟨wr.heap.size, 0, none⟩ = some (.slice (some ⟨g9, 0, none⟩) (rs.length + 1) cap9) ∧ W.cell? ⟨wr.heap.size, 1, none⟩ = some (.slice sl2 ps.length cap2) ∧ W.cell? ⟨wr.heap.size + 1, 0, none⟩ = some (.int .i64 a) ∧ W.cell? ⟨wr.heap.size + 1, 1, none⟩ = some (.int .i64 b) ∧ W.cell? ⟨wr.heap.size + 1, 2, none⟩ = some (.slice (some ⟨g7, 0, none⟩) 0 0)) (by kernel_rfl) ?_ (fun hHeld => ?_)
                  · exact KZ.out _ ((Below.refl _ _).drew)
                  refine wpAnyH_take (i := 0) (oi := _) (v := ?_) rfl (by kernel_rfl) (by kernel_rfl) (by kernel_rfl) (fun _ _ _ h => h) (Or.inl ⟨by rfl, ?_⟩) (by assumption) ?_
                  rotate_left
                  · first | (intro w hSw; (try dsimp only at hSw); go_simp; done) | (intro w hSw; (try dsimp only at hSw); go_simp; with_reducible rfl)
                  try simp only [Act.put, List.setIfInBounds_toArray, List.set_cons_zero, List.set_cons_succ, List.getElem_toArray, List.getElem_cons_zero]
                  refine wpAnyH_take (i := 1) (oi := _) (v := ?_) rfl (by kernel_rfl) (by kernel_rfl) (by kernel_rfl) (fun _ _ _ h => h) (Or.inl ⟨by rfl, ?_⟩) (by assumption) ?_
                  rotate_left
                  · first | (intro w hSw; (try dsimp only at hSw); go_simp; done) | (intro w hSw; (try dsimp only at hSw); go_simp; with_reducible rfl)
                  try simp only [Act.put, List.setIfInBounds_toArray, List.set_cons_zero, List.set_cons_succ, List.getElem_toArray, List.getElem_cons_succ, List.getElem_cons_zero]
                  refine wpAnyH_take (i := 3) (oi := _) (v := ?_) rfl (by kernel_rfl) (by kernel_rfl) (by kernel_rfl) (fun _ _ _ h => h) (Or.inl ⟨by rfl, ?_⟩) (by assumption) ?_
                  rotate_left
                  · first | (intro w hSw; (try dsimp only at hSw); go_simp; done) | (intro w hSw; (try dsimp only at hSw); go_simp; with_reducible rfl)
                  try simp only [Act.put, List.setIfInBounds_toArray, List.set_cons_zero, List.set_cons_succ, List.getElem_toArray, List.getElem_cons_succ, List.getElem_cons_zero]
                  refine wpAnyH_ready (rs := [2]) (by kernel_rfl) (by simp) ?_
                  refine AllReadyH.cons rfl (fun K hK => ?_) AllReadyH.nil
                  go_simp
                  go_wp2_with (go_at_call 17; refine (TS.out _ ((Below.refl _ _).drew)).mono ?_; rintro e w11 ⟨rfl, b11⟩; have B11 := Lib.hid (((Below.refl W2.heap.size W2).drew).trans b11); clear b11; have c11 := cellsAt ((B11.out.block (w.heap.size + 1) hn1).trans MR2.out))
                  refine hK.out _ _ ?_ (fun hHeld => ?_)
                  · exact KZ.out _ B11.out
                  clear hK K
                  refine wpAnyH_take (i := 4) (oi := _) (v := ?_) rfl (by kernel_rfl) (by kernel_rfl) (by kernel_rfl) (fun _ _ _ h => h) (Or.inl ⟨by rfl, ?_⟩) (by assumption) ?_
                  rotate_left
                  · first | (intro w hSw; (try dsimp only at hSw); go_simp; done) | (intro w hSw; (try dsimp only at hSw); go_simp; with_reducible rfl)
                  try simp only [Act.put, List.setIfInBounds_toArray, List.set_cons_zero, List.set_cons_succ, List.getElem_toArray, List.getElem_cons_succ, List.getElem_cons_zero]
                  refine wpAnyH_take (i := 5) (oi := _) (v := ?_) rfl (by kernel_rfl) (by kernel_rfl) (by kernel_rfl) (fun _ _ _ h => h) (Or.inl ⟨by rfl, ?_⟩) (by assumption) ?_
                  rotate_left
                  · first | (intro w hSw; (try dsimp only at hSw); go_simp; done) | (intro w hSw; (try dsimp only at hSw); go_simp; with_reducible rfl)
                  try simp only [Act.put, List.setIfInBounds_toArray, List.set_cons_zero, List.set_cons_succ, List.getElem_toArray, List.getElem_cons_succ, List.getElem_cons_zero]
                  refine wpAnyH_take (i := 6) (oi := _) (v := undef) rfl (by kernel_rfl) (by kernel_rfl) (by kernel_rfl) (fun _ _ _ h => h) (Or.inr ⟨by rfl, rfl⟩) (by assumption) ?_
                  try simp only [Act.put, List.setIfInBounds_toArray, List.set_cons_zero, List.set_cons_succ, List.getElem_toArray, List.getElem_cons_succ, List.getElem_cons_zero]
                  refine wpAnyH_take (i := 7) (oi := _) (v := undef) rfl (by kernel_rfl) (by kernel_rfl) (by kernel_rfl) (fun _ _ _ h => h) (Or.inr ⟨by rfl, rfl⟩) (by assumption) ?_
                  try simp only [Act.put, List.setIfInBounds_toArray, List.set_cons_zero, List.set_cons_succ, List.getElem_toArray, List.getElem_cons_succ, List.getElem_cons_zero]
                  refine wpAnyH_take (i := 8) (oi := _) (v := ?_) rfl (by kernel_rfl) (by kernel_rfl) (by kernel_rfl) (fun _ _ _ h => h) (Or.inl ⟨by rfl, ?_⟩) (by assumption) ?_
                  rotate_left
                  · first | (intro w hSw; (try dsimp only at hSw); go_simp; done) | (intro w hSw; (try dsimp only at hSw); go_simp; with_reducible rfl)
                  try simp only [Act.put, List.setIfInBounds_toArray, List.set_cons_zero, List.set_cons_succ, List.getElem_toArray, List.getElem_cons_succ, List.getElem_cons_zero]
                  refine wpAnyH_ready (rs := [9]) (by kernel_rfl) (by simp) ?_
                  refine AllReadyH.cons rfl (fun K hK => ?_) AllReadyH.nil
                  go_simp
                  go_wp2
                  refine hK.out _ _ ?_ (fun hHeld => ?_)
                  · exact (fun hX => ⟨(set2_cell _ _ _ _ _ _ (by omega)).trans hX.1, (set2_cell _ _ _ _ _ _ (by omega)).trans hX.2.1, (set2_cell _ _ _ _ _ _ (by omega)).trans hX.2.2.1, (set2_cell _ _ _ _ _ _ (by omega)).trans hX.2.2.2.1, (set2_cell _ _ _ _ _ _ (by omega)).trans hX.2.2.2.2⟩) (KZ.out _ B11.out)
                  clear hK K
                  refine wpAnyH_take (i := 10) (oi := _) (v := ?_) rfl (by kernel_rfl) (by kernel_rfl) (by kernel_rfl) (fun _ _ _ h => h) (Or.inl ⟨by rfl, ?_⟩) (by assumption) ?_
                  rotate_left
                  · first | (intro w hSw; (try dsimp only at hSw); go_simp; done) | (intro w hSw; (try dsimp only at hSw); go_simp; with_reducible rfl)
                  try simp only [Act.put, List.setIfInBounds_toArray, List.set_cons_zero, List.set_cons_succ, List.getElem_toArray, List.getElem_cons_succ, List.getElem_cons_zero]
                  refine wpAnyH_done (by kernel_rfl) ?_ _
                  have MZ0 := (B11.out.block (w.heap.size + 1) hn1).trans MR2.out
                  have MZ1 := heap_setCell_same w11 (w.heap.size + 1) 0 _ 25 (.slice (some ⟨g9, 0, none⟩) (rs.length + 1) cap9) MZ0
                  have MZ2 := heap_setCell_same _ (w.heap.size + 1) 1 _ 25 (.slice sl2 ps.length cap2) MZ1
                  have CZ := Lib.hid (((CO.out.below B11.out).keptB MZ0 (grown_set w11 (w.heap.size + 1) 0 (.slice (some ⟨g9, 0, none⟩) (rs.length + 1) cap9))).keptB MZ1 (grown_set _ (w.heap.size + 1) 1 (.slice sl2 ps.length cap2)))
                  have BZ := Lib.hid (((bT BT2.out B11.out).setCell (p := ⟨w.heap.size + 1, 0, none⟩) (by show w.heap.size ≤ w.heap.size + 1; omega) (.slice (some ⟨g9, 0, none⟩) (rs.length + 1) cap9)).setCell (p := ⟨w.heap.size + 1, 1, none⟩) (by show w.heap.size ≤ w.heap.size + 1; omega) (.slice sl2 ps.length cap2))
                  generalize (w11.setCell ⟨w.heap.size + 1, 0, none⟩ (.slice (some ⟨g9, 0, none⟩) (rs.length + 1) cap9)).setCell ⟨w.heap.size + 1, 1, none⟩ (.slice sl2 ps.length cap2) = w14 at *
                  have r0 : w14.cell? ⟨w.heap.size + 1, 0, none⟩ = some (.slice (some ⟨g9, 0, none⟩) (rs.length + 1) cap9) := by rw [(cellsAt MZ2).1]; rfl
                  have r1 : w14.cell? ⟨w.heap.size + 1, 1, none⟩ = some (.slice sl2 ps.length cap2) := by rw [(cellsAt MZ2).1]; rfl
                  go_wp2
                  exact bodyPost_ret (v := .tuple #[.agg #[.slice (some ⟨g9, 0, none⟩) (rs.length + 1) cap9, .slice sl2 ps.length cap2], .bool false]) (by simp [results, Tryd.results10, go_sem, r0, r1]) rfl (by rw [HMs.out]; exact LinePost.of (ok := false) (rs := (rs ++ [(a, b, .slice (some ⟨g7, 0, none⟩) 0 0, ds)])) (ps := ps) ⟨_, _, rfl, CZ.out, BZ.out.mono hB, keep_below BZ.out⟩ (fun hy => by cases hy) (fun _ => HNot.out (fun h2 => hxe (HX.out.2 h2.1))))

    · have hF3 : (ds.length : Int) + 2 ≤ (c7 : Int) := by omega
      have HYes := HYes (.slice (some ⟨g7, 2, none⟩) ds.length (c7 - 2))
      have HNot := HNot (.slice (some ⟨g7, 2, none⟩) ds.length (c7 - 2))
      have HX0 : Hid (TailOf wr C (a, b, .slice (some ⟨g7, 2, none⟩) ds.length (c7 - 2), ds)) := ⟨g7, 2, (c7 - 2), c7, a :: b :: ds, rfl, .inr rfl, by simp, by simp; omega, rfl, own_mono HZ.out hCw⟩
      go_wp2_with fail
      have bW0 := bA0 wr (.cells #[.slice sl1 rs.length cap1, .slice sl2 ps.length cap2] 25)
      have MO0 := Lib.hid (new_at wr (.cells #[.slice sl1 rs.length cap1, .slice sl2 ps.length cap2] 25))
      have hsz0 : (wr.alloc (.cells #[.slice sl1 rs.length cap1, .slice sl2 ps.length cap2] 25)).heap.size = wr.heap.size + 1 := by simp
      have BN0 := Lib.hid (bT BN.out bW0)
      have OT0 := Lib.hid (OT.out.below bW0)
      have T0 := Lib.hid (HX0.out.below bW0)
      have HZ0 := Lib.hid HX0.out.dm
      have KB : Hid (∀ W, Below (wr.alloc (.cells #[.slice sl1 rs.length cap1, .slice sl2 ps.length cap2] 25)).heap.size (wr.alloc (.cells #[.slice sl1 rs.length cap1, .slice sl2 ps.length cap2] 25)) W → W.cell? ⟨g7, 0, none⟩ = some (.int .i64 a) ∧ W.cell? ⟨g7, 1, none⟩ = some (.int .i64 b)) := fun W hW => ⟨((bT bW0 hW).cell hg7l).trans z0, ((bT bW0 hW).cell hg7l).trans z1⟩
      generalize wr.alloc (.cells #[.slice sl1 rs.length cap1, .slice sl2 ps.length cap2] 25) = W0 at *
      clear c0a c1a q0b bW0 HX0 HZ0
      refine wp_region_held_drew (S := fun W => W.cell? ⟨g7, 0, none⟩ = some (.int .i64 a) ∧ W.cell? ⟨g7, 1, none⟩ = some (.int .i64 b)) (by kernel_rfl) ?_ (fun hHeld => ?_)
      · exact KB.out _ (Below.refl _ _).drew
      refine wpAnyH_take (i := 0) (oi := _) (v := ?_) rfl (by kernel_rfl) (by kernel_rfl) (by kernel_rfl) (fun _ _ _ h => h) (Or.inl ⟨by rfl, ?_⟩) (by assumption) ?_
      rotate_left
      · first | (intro w hSw; (try dsimp only at hSw); go_simp; done) | (intro w hSw; (try dsimp only at hSw); go_simp; with_reducible rfl)
      try simp only [Act.put, List.setIfInBounds_toArray, List.set_cons_zero, List.set_cons_succ, List.getElem_toArray, List.getElem_cons_zero]
      refine wpAnyH_take (i := 1) (oi := _) (v := ?_) rfl (by kernel_rfl) (by kernel_rfl) (by kernel_rfl) (fun _ _ _ h => h) (Or.inl ⟨by rfl, ?_⟩) (by assumption) ?_
      rotate_left
      · first | (intro w hSw; (try dsimp only at hSw); go_simp; done) | (intro w hSw; (try dsimp only at hSw); go_simp; with_reducible rfl)
      try simp only [Act.put, List.setIfInBounds_toArray, List.set_cons_zero, List.set_cons_succ, List.getElem_toArray, List.getElem_cons_succ, List.getElem_cons_zero]
      refine wpAnyH_take (i := 2) (oi := _) (v := ?_) rfl (by kernel_rfl) (by kernel_rfl) (by kernel_rfl) (fun _ _ _ h => h) (Or.inl ⟨by rfl, ?_⟩) (by assumption) ?_
      rotate_left
      · first | (intro w hSw; (try dsimp only at hSw); go_simp; done) | (intro w hSw; (try dsimp only at hSw); go_simp; with_reducible rfl)
      try simp only [Act.put, List.setIfInBounds_toArray, List.set_cons_zero, List.set_cons_succ, List.getElem_toArray, List.getElem_cons_succ, List.getElem_cons_zero]
      refine wpAnyH_take (i := 3) (oi := _) (v := ?_) rfl (by kernel_rfl) (by kernel_rfl) (by kernel_rfl) (fun _ _ _ h => h) (Or.inl ⟨by rfl, ?_⟩) (by assumption) ?_
      rotate_left
      · first | (intro w hSw; (try dsimp only at hSw); go_simp; done) | (intro w hSw; (try dsimp only at hSw); go_simp; with_reducible rfl)
      try simp only [Act.put, List.setIfInBounds_toArray, List.set_cons_zero, List.set_cons_succ, List.getElem_toArray, List.getElem_cons_succ, List.getElem_cons_zero]
      refine wpAnyH_take (i := 4) (oi := _) (v := ?_) rfl (by kernel_rfl) (by kernel_rfl) (by kernel_rfl) (fun _ _ _ h => h) (Or.inl ⟨by rfl, ?_⟩) (by assumption) ?_
      rotate_left
      · first | (intro w hSw; (try dsimp only at hSw); go_simp; done) | (intro w hSw; (try dsimp only at hSw); go_simp; with_reducible rfl)
      try simp only [Act.put, List.setIfInBounds_toArray, List.set_cons_zero, List.set_cons_succ, List.getElem_toArray, List.getElem_cons_succ, List.getElem_cons_zero]
      refine wpAnyH_take (i := 5) (oi := _) (v := ?_) rfl (by kernel_rfl) (by kernel_rfl) (by kernel_rfl) (fun _ _ _ h => h) (Or.inl ⟨by rfl, ?_⟩) (by assumption) ?_
      rotate_left
      · first | (intro w hSw; (try dsimp only at hSw); go_simp; done) | (intro w hSw; (try dsimp only at hSw); go_simp; with_reducible rfl)
      try simp only [Act.put, List.setIfInBounds_toArray, List.set_cons_zero, List.set_cons_succ, List.getElem_toArray, List.getElem_cons_succ, List.getElem_cons_zero]
      refine wpAnyH_take (i := 6) (oi := _) (v := ?_) rfl (by kernel_rfl) (by kernel_rfl) (by kernel_rfl) (fun _ _ _ h => h) (Or.inl ⟨by rfl, ?_⟩) (by assumption) ?_
      rotate_left
      · first | (intro w hSw; (try dsimp only at hSw); go_simp; done) | (intro w hSw; (try dsimp only at hSw); go_simp; with_reducible rfl)
      try simp only [Act.put, List.setIfInBounds_toArray, List.set_cons_zero, List.set_cons_succ, List.getElem_toArray, List.getElem_cons_succ, List.getElem_cons_zero]
      refine wpAnyH_take (i := 7) (oi := _) (v := ?_) rfl (by kernel_rfl) (by kernel_rfl) (by kernel_rfl) (fun _ _ _ h => h) (Or.inl ⟨by rfl, ?_⟩) (by assumption) ?_
      rotate_left
      · first | (intro w hSw; (try dsimp only at hSw); go_simp; done) | (intro w hSw; (try dsimp only at hSw); go_simp; with_reducible rfl)
      try simp only [Act.put, List.setIfInBounds_toArray, List.set_cons_zero, List.set_cons_succ, List.getElem_toArray, List.getElem_cons_succ, List.getElem_cons_zero]
      refine wpAnyH_take (i := 8) (oi := _) (v := ?_) rfl (by kernel_rfl) (by kernel_rfl) (by kernel_rfl) (fun _ _ _ h => h) (Or.inl ⟨by rfl, ?_⟩) (by assumption) ?_
      rotate_left
      · first | (intro w hSw; (try dsimp only at hSw); go_simp; done) | (intro w hSw; (try dsimp only at hSw); go_simp; with_reducible rfl)
      try simp only [Act.put, List.setIfInBounds_toArray, List.set_cons_zero, List.set_cons_succ, List.getElem_toArray, List.getElem_cons_succ, List.getElem_cons_zero]
      refine wpAnyH_ready (rs := [9]) (by kernel_rfl) (by simp) ?_
      refine AllReadyH.cons rfl (fun K hK => ?_) AllReadyH.nil
      go_simp
      go_wp2
      refine hK.out _ _ ?_ (fun hHeld => ?_)
      · exact KB.out _ (bA (Below.refl _ _).drew _)
      clear hK K
      refine wpAnyH_ready (rs := [10]) (by kernel_rfl) (by simp) ?_
      refine AllReadyH.cons rfl (fun K hK => ?_) AllReadyH.nil
      go_simp
      go_wp2
      refine hK.out _ _ ?_ (fun hHeld => ?_)
      · exact KB.out _ (bA (Below.refl _ _).drew _)
      clear hK K
      refine wpAnyH_done (by kernel_rfl) ?_ _
      rename_i hh1 hh2
      clear hh1 hh2
      have bW := (bA0 W0 (.cells #[.int .i64 a, .int .i64 b, .slice (some ⟨g7, 2, none⟩) ds.length (c7 - 2)] 43)).drew
      have MS1 : Hid (((W0.alloc (.cells #[.int .i64 a, .int .i64 b, .slice (some ⟨g7, 2, none⟩) ds.length (c7 - 2)] 43)).drew).heap[wr.heap.size + 1]? = some (.cells #[.int .i64 a, .int .i64 b, .slice (some ⟨g7, 2, none⟩) ds.length (c7 - 2)] 43)) := by
        have := new_at W0 (.cells #[.int .i64 a, .int .i64 b, .slice (some ⟨g7, 2, none⟩) ds.length (c7 - 2)] 43)
        rw [hsz0] at this
        exact this
      have hs1 : ((W0.alloc (.cells #[.int .i64 a, .int .i64 b, .slice (some ⟨g7, 2, none⟩) ds.length (c7 - 2)] 43)).drew).heap.size = wr.heap.size + 1 + 1 := by
        show (W0.alloc _).heap.size = _
        simp [hsz0]
      have BN1 := Lib.hid (bT BN0.out bW)
      have OT1 := Lib.hid (OT0.out.below bW)
      have T1 := Lib.hid (T0.out.below bW)
      have HZ1 := Lib.hid T1.out
      have MO1 := Lib.hid ((bW.block wr.heap.size (by omega)).trans MO0.out)
      have MR1 := Lib.hid ((bW.block (w.heap.size + 1) (by omega)).trans M1a.out)
      have MT1 := Lib.hid ((bW.block w.heap.size (by omega)).trans M0a.out)
      generalize (W0.alloc (.cells #[.int .i64 a, .int .i64 b, .slice (some ⟨g7, 2, none⟩) ds.length (c7 - 2)] 43)).drew = W1 at *
      clear bW OT0 T0 MO0 BN0 KB hsz0 hHeld M0a M1a
      have hobl : wr.heap.size < W1.heap.size := by omega
      have hsbl : wr.heap.size + 1 < W1.heap.size := by omega
      have hn1l : w.heap.size + 1 < W1.heap.size := by omega
      have hn0l : w.heap.size < W1.heap.size := by omega
      have hC1 : C ≤ W1.heap.size := by omega
      have KS : Hid (∀ W, Below W1.heap.size W1 W → W.cell? ⟨w.heap.size, 0, none⟩ = some (.slice sl1 rs.length cap1) ∧ W.cell? ⟨wr.heap.size + 1, 0, none⟩ = some (.int .i64 a) ∧ W.cell? ⟨wr.heap.size + 1, 1, none⟩ = some (.int .i64 b) ∧ W.cell? ⟨wr.heap.size + 1, 2, none⟩ = some (.slice (some ⟨g7, 2, none⟩) ds.length (c7 - 2))) := fun W hW => ⟨(hW.cell hn0l).trans (by rw [(cellsAt MT1.out).1]; rfl), (hW.cell hsbl).trans (by rw [(cellsAt MS1.out).1]; rfl), (hW.cell hsbl).trans (by rw [(cellsAt MS1.out).1]; rfl), (hW.cell hsbl).trans (by rw [(cellsAt MS1.out).1]; rfl)⟩
      have BD := Lib.hid (Below.refl W1.heap.size W1).drew
      clear hs1
      go_wp2_with fail
      refine wp_region_held_drew (S := fun W => W.cell? ⟨w.heap.size, 0, none⟩ = some (.slice sl1 rs.length cap1) ∧ W.cell? ⟨wr.heap.size + 1, 0, none⟩ = some (.int .i64 a) ∧ W.cell? ⟨wr.heap.size + 1, 1, none⟩ = some (.int .i64 b) ∧ W.cell? ⟨wr.heap.size + 1, 2, none⟩ = some (.slice (some ⟨g7, 2, none⟩) ds.length (c7 - 2))) (by kernel_rfl) ?_ (fun hHeld => ?_)
      · exact KS.out _ BD.out
      generalize W1.drew = wd at *
      refine wpAnyH_take (i := 1) (oi := _) (v := ?_) rfl (by kernel_rfl) (by kernel_rfl) (by kernel_rfl) (fun _ _ _ h => h) (Or.inl ⟨by rfl, ?_⟩) (by assumption) ?_
      rotate_left
      · first | (intro w hSw; (try dsimp only at hSw); go_simp; done) | (intro w hSw; (try dsimp only at hSw); go_simp; with_reducible rfl)
      try simp only [Act.put, List.setIfInBounds_toArray, List.set_cons_zero, List.set_cons_succ, List.getElem_toArray, List.getElem_cons_succ, List.getElem_cons_zero]
      refine wpAnyH_take (i := 2) (oi := _) (v := ?_) rfl (by kernel_rfl) (by kernel_rfl) (by kernel_rfl) (fun _ _ _ h => h) (Or.inl ⟨by rfl, ?_⟩) (by assumption) ?_
      rotate_left
      · first | (intro w hSw; (try dsimp only at hSw); go_simp; done) | (intro w hSw; (try dsimp only at hSw); go_simp; with_reducible rfl)
      try simp only [Act.put, List.setIfInBounds_toArray, List.set_cons_zero, List.set_cons_succ, List.getElem_toArray, List.getElem_cons_succ, List.getElem_cons_zero]
      refine wpAnyH_take (i := 4) (oi := _) (v := ?_) rfl (by kernel_rfl) (by kernel_rfl) (by kernel_rfl) (fun _ _ _ h => h) (Or.inl ⟨by rfl, ?_⟩) (by assumption) ?_
      rotate_left
      · first | (intro w hSw; (try dsimp only at hSw); go_simp; done) | (intro w hSw; (try dsimp only at hSw); go_simp; with_reducible rfl)
      try simp only [Act.put, List.setIfInBounds_toArray, List.set_cons_zero, List.set_cons_succ, List.getElem_toArray, List.getElem_cons_succ, List.getElem_cons_zero]
      refine wpAnyH_ready (rs := [0, 5]) (by kernel_rfl) (by simp) ?_
      refine (AllReadyH.cons rfl (fun K hK => ?_) (AllReadyH.cons rfl (fun K hK => ?_) AllReadyH.nil))
      · go_simp
        go_wp2
        refine hK.out _ _ ?_ (fun hHeld => ?_)
        · exact KS.out _ (BD.out.alloc BD.out.size _)
        clear hK K hHeld
        have BX1 := Lib.hid (BD.out.alloc BD.out.size (.cells #[] 43))
        have OX1 := Lib.hid (own_mono (own_lit0 wd 43 3) BD.out.size)
        have hl1 : wd.heap.size < (wd.alloc (.cells #[] 43)).heap.size := by simp
        have hm1 := BD.out.size
        generalize wd.alloc (.cells #[] 43) = w1_ at *
        generalize wd.heap.size = bk1 at *
        have hb1 := hl1
        refine wpAnyH_ready (rs := [3, 5]) (by kernel_rfl) (by simp) ?_
        refine (AllReadyH.cons rfl (fun K hK => ?_) (AllReadyH.cons rfl (fun K hK => ?_) AllReadyH.nil))
        · refine step_append_own rfl (.tmp 64) (.tmp 66) 22 43 rfl iS (.agg #[.int .i64 0, .int .i64 0, .slice none 0 0]) 3 40 Tryd.underlying22 hiS hzS0 hzS1 hzS2 rfl (by decide) (by decide) W1.heap.size bk1 (by simp [Act.eval, Act.put]) OX1.out C (.slice sl1 rs.length cap1) rs.length (stC rs) (by simp [Act.eval, Act.put]) ((OT1.out.below (BX1.out)).r1) (stC_one rs (OT1.out.below (BX1.out)).dom) (by omega) BX1.out.size ?_
          intro x2_ y2_ w2_ on2 gn2
          have BX2 := Lib.hid (BX1.out.grown gn2 BX1.out.size (fun k hk => by cases hk; exact (World.ownsRow.lt OX1.out bk1 rfl).1))
          refine hK.out _ _ ?_ (fun hHeld => ?_)
          · exact KS.out _ BX2.out
          clear hK K hHeld
          have OX2 := Lib.hid on2
          clear on2 gn2
          refine wpAnyH_ready (rs := [5]) (by kernel_rfl) (by simp) ?_
          refine (AllReadyH.cons rfl (fun K hK => ?_) AllReadyH.nil)
          · go_simp
            go_wp2
            refine hK.out _ _ ?_ (fun hHeld => ?_)
            · exact KS.out _ (BX2.out.alloc BX2.out.size _)
            clear hK K hHeld
            have BX3 := Lib.hid (BX2.out.alloc BX2.out.size (.cells #[.int .i64 a, .int .i64 b, .slice (some ⟨g7, 2, none⟩) ds.length (c7 - 2)] 43))
            have OX3 := Lib.hid (own_below OX2.out (bA0 w2_ (.cells #[.int .i64 a, .int .i64 b, .slice (some ⟨g7, 2, none⟩) ds.length (c7 - 2)] 43)))
            have SC3 := Lib.hid (cell_three_new w2_ (.int .i64 a) (.int .i64 b) (.slice (some ⟨g7, 2, none⟩) ds.length (c7 - 2)) 43)
            have hl3 : w2_.heap.size < (w2_.alloc (.cells #[.int .i64 a, .int .i64 b, .slice (some ⟨g7, 2, none⟩) ds.length (c7 - 2)] 43)).heap.size := by simp
            have hm3 := BX2.out.size
            generalize w2_.alloc (.cells #[.int .i64 a, .int .i64 b, .slice (some ⟨g7, 2, none⟩) ds.length (c7 - 2)] 43) = w3_ at *
            generalize w2_.heap.size = bk3 at *
            have hs3 := hl3
            refine wpAnyH_ready (rs := [6]) (by kernel_rfl) (by simp) ?_
            refine (AllReadyH.cons rfl (fun K hK => ?_) AllReadyH.nil)
            · refine step_append_lies _ rfl (.tmp 67) (.tmp 69) 22 rfl W1.heap.size 43 iS _ 3 40 Tryd.underlying22 hiS hzS0 hzS1 hzS2 rfl (by decide) (.slice x2_ rs.length y2_) rs.length (stC rs) (by simp [Act.eval, Act.put]) OX3.out ⟨bk3, 0, none⟩ 1 1 [.int .i64 a, .int .i64 b, .slice (some ⟨g7, 2, none⟩) ds.length (c7 - 2)] (by simp [Act.eval, Act.put]) rfl SC3.out (by simp [Value.oneCell']) (by decide) (by unfold maxLen; omega) (by omega) BX3.out.size _ rfl ?_
              intro g9 cap9 w4_ on4 gn4 hg4 hlt4
              have BX4 := Lib.hid (BX3.out.grown gn4 BX3.out.size (fun k hk => (World.ownsRow.lt OX3.out k hk).1))
              refine hK.out _ _ ?_ (fun hHeld => ?_)
              · exact KS.out _ BX4.out
              clear hK K hHeld
              have OX4 := Lib.hid on4
              clear on4 gn4 hg4 hlt4
              try simp only [Act.put, List.setIfInBounds_toArray, List.set_cons_zero, List.set_cons_succ, List.getElem_toArray, List.getElem_cons_succ, List.getElem_cons_zero]
              have hHeld := KS.out _ BX4.out
              refine wpAnyH_take (i := 7) (oi := _) (v := ?_) rfl (by kernel_rfl) (by kernel_rfl) (by kernel_rfl) (fun _ _ _ h => h) (Or.inl ⟨by rfl, ?_⟩) (by assumption) ?_
              rotate_left
              · first | (intro w hSw; (try dsimp only at hSw); go_simp; done) | (intro w hSw; (try dsimp only at hSw); go_simp; with_reducible rfl)
              try simp only [Act.put, List.setIfInBounds_toArray, List.set_cons_zero, List.set_cons_succ, List.getElem_toArray, List.getElem_cons_succ, List.getElem_cons_zero]
              clear hHeld
              refine wpAnyH_ready (rs := [8]) (by kernel_rfl) (by simp) ?_
              refine (AllReadyH.cons rfl (fun K hK => ?_) AllReadyH.nil)
              · have cO5 := cellsAt ((BX4.out.block wr.heap.size hobl).trans MO1.out)
                go_simp
                go_wp2
                refine hK.out _ _ ?_ (fun hHeld => ?_)
                · exact ⟨(World.cell?_of_block (Below.heap_setCell _ _ _ _ (by show w.heap.size ≠ wr.heap.size; omega))).trans (KS.out _ BX4.out).1, (World.cell?_of_block (Below.heap_setCell _ _ _ _ (by show wr.heap.size + 1 ≠ wr.heap.size; omega))).trans (KS.out _ BX4.out).2.1, (World.cell?_of_block (Below.heap_setCell _ _ _ _ (by show wr.heap.size + 1 ≠ wr.heap.size; omega))).trans (KS.out _ BX4.out).2.2.1, (World.cell?_of_block (Below.heap_setCell _ _ _ _ (by show wr.heap.size + 1 ≠ wr.heap.size; omega))).trans (KS.out _ BX4.out).2.2.2⟩
                clear hK K hHeld cO5
                refine wpAnyH_done (by kernel_rfl) ?_ _
                have MO2 := Lib.hid (heap_setCell_same w4_ wr.heap.size 0 _ 25 (.slice (some ⟨g9, 0, none⟩) (rs.length + 1) cap9) ((BX4.out.block wr.heap.size hobl).trans MO1.out))
                have MR2 := Lib.hid ((Below.heap_setCell w4_ ⟨wr.heap.size, 0, none⟩ (.slice (some ⟨g9, 0, none⟩) (rs.length + 1) cap9) (w.heap.size + 1) (by show w.heap.size + 1 ≠ wr.heap.size; omega)).trans ((BX4.out.block (w.heap.size + 1) hn1l).trans MR1.out))
                have MS2 := Lib.hid ((Below.heap_setCell w4_ ⟨wr.heap.size, 0, none⟩ (.slice (some ⟨g9, 0, none⟩) (rs.length + 1) cap9) (wr.heap.size + 1) (by show wr.heap.size + 1 ≠ wr.heap.size; omega)).trans ((BX4.out.block (wr.heap.size + 1) hsbl).trans MS1.out))
                have MOb := Lib.hid ((BX4.out.block wr.heap.size hobl).trans MO1.out)
                have CO : Hid (OwT (w4_.setCell ⟨wr.heap.size, 0, none⟩ (.slice (some ⟨g9, 0, none⟩) (rs.length + 1) cap9)) C (.slice (some ⟨g9, 0, none⟩) (rs.length + 1) cap9) (.slice sl2 ps.length cap2) (rs ++ [(a, b, .slice (some ⟨g7, 2, none⟩) ds.length (c7 - 2), ds)]) ps) := by
                  have oo := OT1.out.below BX4.out
                  have gs := grown_set w4_ wr.heap.size 0 (.slice (some ⟨g9, 0, none⟩) (rs.length + 1) cap9)
                  refine ⟨?_, own_keptB oo.r2 MOb.out (by decide) gs, fun r hr => ?_, ?_⟩
                  · have := own_keptB (own_mono OX4.out hC1) MOb.out (by decide) gs
                    rw [List.length_append, stC_add]
                    exact this
                  · rcases List.mem_append.1 hr with hr | hr
                    · exact (oo.dom r hr).keptB MOb.out (by decide) gs
                    · rw [List.mem_singleton.1 hr]
                      exact (T1.out.below BX4.out).keptB MOb.out (by decide) gs
                  · refine List.pairwise_append.2 ⟨oo.diff, List.pairwise_singleton _ _, fun s' hs' t ht => ?_⟩
                    rw [List.mem_singleton.1 ht]
                    exact hFr s' hs'
                have BT2 := Lib.hid ((bT BN1.out BX4.out).setCell (p := ⟨wr.heap.size, 0, none⟩) (by show w.heap.size ≤ wr.heap.size; omega) (.slice (some ⟨g9, 0, none⟩) (rs.length + 1) cap9))
                have IZ := Lib.hid ((HZ1.out.below BX4.out))
                have hn1 : w.heap.size + 1 < (w4_.setCell ⟨wr.heap.size, 0, none⟩ (.slice (some ⟨g9, 0, none⟩) (rs.length + 1) cap9)).heap.size := (Array.getElem?_eq_some_iff.1 MR2.out).1
                have hl0 : wr.heap.size < (w4_.setCell ⟨wr.heap.size, 0, none⟩ (.slice (some ⟨g9, 0, none⟩) (rs.length + 1) cap9)).heap.size := (Array.getElem?_eq_some_iff.1 MO2.out).1
                have hl1 : wr.heap.size + 1 < (w4_.setCell ⟨wr.heap.size, 0, none⟩ (.slice (some ⟨g9, 0, none⟩) (rs.length + 1) cap9)).heap.size := (Array.getElem?_eq_some_iff.1 MS2.out).1
                have TL := Lib.hid ((CO.out.dom _ (List.mem_append_right _ (List.mem_singleton.2 rfl))).dm)
                generalize w4_.setCell ⟨wr.heap.size, 0, none⟩ (.slice (some ⟨g9, 0, none⟩) (rs.length + 1) cap9) = W2 at *
                have KZ : Hid (∀ W, Below W2.heap.size W2 W → W.cell? ⟨wr.heap.size, 0, none⟩ = some (.slice (some ⟨g9, 0, none⟩) (rs.length + 1) cap9) ∧ W.cell? ⟨wr.heap.size, 1, none⟩ = some (.slice sl2 ps.length cap2) ∧ W.cell? ⟨wr.heap.size + 1, 0, none⟩ = some (.int .i64 a) ∧ W.cell? ⟨wr.heap.size + 1, 1, none⟩ = some (.int .i64 b) ∧ W.cell? ⟨wr.heap.size + 1, 2, none⟩ = some (.slice (some ⟨g7, 2, none⟩) ds.length (c7 - 2))) := fun W hW => ⟨(hW.cell hl0).trans (by rw [(cellsAt MO2.out).1]; rfl), (hW.cell hl0).trans (by rw [(cellsAt MO2.out).1]; rfl), (hW.cell hl1).trans (by rw [(cellsAt MS2.out).1]; rfl), (hW.cell hl1).trans (by rw [(cellsAt MS2.out).1]; rfl), (hW.cell hl1).trans (by rw [(cellsAt MS2.out).1]; rfl)⟩
                have TC : Hid (∀ W, Below W2.heap.size W2 W → Calls Tryd.prog 18 #[.agg #[.slice (some ⟨g9, 0, none⟩) (rs.length + 1) cap9, .slice sl2 ps.length cap2]] W fun e w' => e = .returned (.bool (B (TabR (rs ++ [(a, b, .slice (some ⟨g7, 2, none⟩) ds.length (c7 - 2), ds)]) ps))) ∧ Below W.heap.size W w') := fun W hW => by
                  have hC := CO.out.below hW
                  obtain ⟨s1, k1, ev, hst⟩ := own_st hC
                  obtain ⟨s2, k2, ev2, hpr⟩ := own_pr hC
                  have := str_any s1 k1 s2 k2 _ _ W hst hpr
                  rw [ev, ev2]
                  exact this
                have TS : Hid (∀ W, Below W2.heap.size W2 W → Calls Tryd.prog 17 #[.agg #[.int .i64 a, .int .i64 b, .slice (some ⟨g7, 2, none⟩) ds.length (c7 - 2)]] W fun e w' => e = .returned (.string ⟨(statB a b ds).toArray⟩) ∧ Below W.heap.size W w') := fun W hW => by
                  obtain ⟨sx, cx, ex, ix, _⟩ := TL.out
                  have ex' : .slice (some ⟨g7, 2, none⟩) ds.length (c7 - 2) = Value.slice sx ds.length cx := ex
                  have := stt_any a b sx cx ds W hab.out.1 hab.out.2.1 (by omega) hab.out.2.2 (ix.below hW)
                  rw [ex']
                  exact this
                have HX : Hid ((((⟨(statB a b ds).toArray⟩ : ByteArray).toList == s.toList) = true) ↔ staW ++ numsT z = s.data.toList) := by
                  show _ ↔ _
                  rw [beq_iff_eq, Go.ByteArray.toList_eq, Go.ByteArray.toList_eq, HZZ.out, ← stat_words]
                clear IZ
                generalize hXB : (⟨(statB a b ds).toArray⟩ : ByteArray) = XB at *
                clear hXB
                go_wp2_with fail
                by_cases hxe : (XB.toList == s.toList) = true
                · refine wp_region_held_drew (S := fun W => W.cell? ⟨wr.heap.size, 0, none⟩ = some (.slice (some ⟨g9, 0, none⟩) (rs.length + 1) cap9) ∧ W.cell? ⟨wr.heap.size, 1, none⟩ = some (.slice sl2 ps.length cap2) ∧ W.cell? ⟨wr.heap.size + 1, 0, none⟩ = some (.int .i64 a) ∧ W.cell? ⟨wr.heap.size + 1, 1, none⟩ = some (.int .i64 b) ∧ W.cell? ⟨wr.heap.size + 1, 2, none⟩ = some (.slice (some ⟨g7, 2, none⟩) ds.length (c7 - 2))) (by kernel_rfl) ?_ (fun hHeld => ?_)
                  · exact KZ.out _ ((Below.refl _ _).drew)
                  refine wpAnyH_take (i := 0) (oi := _) (v := ?_) rfl (by kernel_rfl) (by kernel_rfl) (by kernel_rfl) (fun _ _ _ h => h) (Or.inl ⟨by rfl, ?_⟩) (by assumption) ?_
                  rotate_left
                  · first | (intro w hSw; (try dsimp only at hSw); go_simp; done) | (intro w hSw; (try dsimp only at hSw); go_simp; with_reducible rfl)
                  try simp only [Act.put, List.setIfInBounds_toArray, List.set_cons_zero, List.set_cons_succ, List.getElem_toArray, List.getElem_cons_zero]
                  refine wpAnyH_take (i := 1) (oi := _) (v := ?_) rfl (by kernel_rfl) (by kernel_rfl) (by kernel_rfl) (fun _ _ _ h => h) (Or.inl ⟨by rfl, ?_⟩) (by assumption) ?_
                  rotate_left
                  · first | (intro w hSw; (try dsimp only at hSw); go_simp; done) | (intro w hSw; (try dsimp only at hSw); go_simp; with_reducible rfl)
                  try simp only [Act.put, List.setIfInBounds_toArray, List.set_cons_zero, List.set_cons_succ, List.getElem_toArray, List.getElem_cons_succ, List.getElem_cons_zero]
                  refine wpAnyH_take (i := 3) (oi := _) (v := ?_) rfl (by kernel_rfl) (by kernel_rfl) (by kernel_rfl) (fun _ _ _ h => h) (Or.inl ⟨by rfl, ?_⟩) (by assumption) ?_
                  rotate_left
                  · first | (intro w hSw; (try dsimp only at hSw); go_simp; done) | (intro w hSw; (try dsimp only at hSw); go_simp; with_reducible rfl)
                  try simp only [Act.put, List.setIfInBounds_toArray, List.set_cons_zero, List.set_cons_succ, List.getElem_toArray, List.getElem_cons_succ, List.getElem_cons_zero]
                  refine wpAnyH_ready (rs := [2]) (by kernel_rfl) (by simp) ?_
                  refine AllReadyH.cons rfl (fun K hK => ?_) AllReadyH.nil
                  go_simp
                  go_wp2_with (go_at_call 17; refine (TS.out _ ((Below.refl _ _).drew)).mono ?_; rintro e w11 ⟨rfl, b11⟩; have B11 := Lib.hid (((Below.refl W2.heap.size W2).drew).trans b11); clear b11)
                  refine hK.out _ _ ?_ (fun hHeld => ?_)
                  · exact KZ.out _ B11.out
                  clear hK K
                  refine wpAnyH_take (i := 4) (oi := _) (v := ?_) rfl (by kernel_rfl) (by kernel_rfl) (by kernel_rfl) (fun _ _ _ h => h) (Or.inl ⟨by rfl, ?_⟩) (by assumption) ?_
                  rotate_left
                  · first | (intro w hSw; (try dsimp only at hSw); go_simp; done) | (intro w hSw; (try dsimp only at hSw); go_simp; with_reducible rfl)
                  try simp only [Act.put, List.setIfInBounds_toArray, List.set_cons_zero, List.set_cons_succ, List.getElem_toArray, List.getElem_cons_succ, List.getElem_cons_zero]
                  refine wpAnyH_take (i := 5) (oi := _) (v := ?_) rfl (by kernel_rfl) (by kernel_rfl) (by kernel_rfl) (fun _ _ _ h => h) (Or.inl ⟨by rfl, ?_⟩) (by assumption) ?_
                  rotate_left
                  · first | (intro w hSw; (try dsimp only at hSw); go_simp; done) | (intro w hSw; (try dsimp only at hSw); go_simp; with_reducible rfl)
                  try simp only [Act.put, List.setIfInBounds_toArray, List.set_cons_zero, List.set_cons_succ, List.getElem_toArray, List.getElem_cons_succ, List.getElem_cons_zero]
                  refine wpAnyH_take (i := 6) (oi := _) (v := ?_) rfl (by kernel_rfl) (by kernel_rfl) (by kernel_rfl) (fun _ _ _ h => h) (Or.inl ⟨by rfl, ?_⟩) (by assumption) ?_
                  rotate_left
                  · first | (intro w hSw; (try dsimp only at hSw); go_simp; done) | (intro w hSw; (try dsimp only at hSw); go_simp; with_reducible rfl)
                  try simp only [Act.put, List.setIfInBounds_toArray, List.set_cons_zero, List.set_cons_succ, List.getElem_toArray, List.getElem_cons_succ, List.getElem_cons_zero]
                  refine wpAnyH_ready (rs := [7]) (by kernel_rfl) (by simp) ?_
                  refine AllReadyH.cons rfl (fun K hK => ?_) AllReadyH.nil
                  go_simp
                  go_wp2_with (go_at_call 18; refine (TC.out _ B11.out).mono ?_; rintro e w12 ⟨rfl, b12⟩; have B12 := Lib.hid (bT B11.out b12); have c12 := cellsAt ((B12.out.block (w.heap.size + 1) hn1).trans MR2.out); clear b12)
                  refine hK.out _ _ ?_ (fun hHeld => ?_)
                  · exact KZ.out _ B12.out
                  clear hK K
                  refine wpAnyH_take (i := 8) (oi := _) (v := ?_) rfl (by kernel_rfl) (by kernel_rfl) (by kernel_rfl) (fun _ _ _ h => h) (Or.inl ⟨by rfl, ?_⟩) (by assumption) ?_
                  rotate_left
                  · first | (intro w hSw; (try dsimp only at hSw); go_simp; done) | (intro w hSw; (try dsimp only at hSw); go_simp; with_reducible rfl)
                  try simp only [Act.put, List.setIfInBounds_toArray, List.set_cons_zero, List.set_cons_succ, List.getElem_toArray, List.getElem_cons_succ, List.getElem_cons_zero]
                  refine wpAnyH_ready (rs := [9]) (by kernel_rfl) (by simp) ?_
                  refine AllReadyH.cons rfl (fun K hK => ?_) AllReadyH.nil
                  go_simp
                  go_wp2
                  refine hK.out _ _ ?_ (fun hHeld => ?_)
                  · exact (fun hX => ⟨(set2_cell _ _ _ _ _ _ (by omega)).trans hX.1, (set2_cell _ _ _ _ _ _ (by omega)).trans hX.2.1, (set2_cell _ _ _ _ _ _ (by omega)).trans hX.2.2.1, (set2_cell _ _ _ _ _ _ (by omega)).trans hX.2.2.2.1, (set2_cell _ _ _ _ _ _ (by omega)).trans hX.2.2.2.2⟩) (KZ.out _ B12.out)
                  clear hK K
                  refine wpAnyH_take (i := 10) (oi := _) (v := ?_) rfl (by kernel_rfl) (by kernel_rfl) (by kernel_rfl) (fun _ _ _ h => h) (Or.inl ⟨by rfl, ?_⟩) (by assumption) ?_
                  rotate_left
                  · first | (intro w hSw; (try dsimp only at hSw); go_simp; done) | (intro w hSw; (try dsimp only at hSw); go_simp; with_reducible rfl)
                  try simp only [Act.put, List.setIfInBounds_toArray, List.set_cons_zero, List.set_cons_succ, List.getElem_toArray, List.getElem_cons_succ, List.getElem_cons_zero]
                  refine wpAnyH_done (by kernel_rfl) ?_ _
                  have MZ0 := (B12.out.block (w.heap.size + 1) hn1).trans MR2.out
                  have MZ1 := heap_setCell_same w12 (w.heap.size + 1) 0 _ 25 (.slice (some ⟨g9, 0, none⟩) (rs.length + 1) cap9) MZ0
                  have MZ2 := heap_setCell_same _ (w.heap.size + 1) 1 _ 25 (.slice sl2 ps.length cap2) MZ1
                  have CZ := Lib.hid (((CO.out.below B12.out).keptB MZ0 (grown_set w12 (w.heap.size + 1) 0 (.slice (some ⟨g9, 0, none⟩) (rs.length + 1) cap9))).keptB MZ1 (grown_set _ (w.heap.size + 1) 1 (.slice sl2 ps.length cap2)))
                  have BZ := Lib.hid (((bT BT2.out B12.out).setCell (p := ⟨w.heap.size + 1, 0, none⟩) (by show w.heap.size ≤ w.heap.size + 1; omega) (.slice (some ⟨g9, 0, none⟩) (rs.length + 1) cap9)).setCell (p := ⟨w.heap.size + 1, 1, none⟩) (by show w.heap.size ≤ w.heap.size + 1; omega) (.slice sl2 ps.length cap2))
                  generalize (w12.setCell ⟨w.heap.size + 1, 0, none⟩ (.slice (some ⟨g9, 0, none⟩) (rs.length + 1) cap9)).setCell ⟨w.heap.size + 1, 1, none⟩ (.slice sl2 ps.length cap2) = w14 at *
                  have r0 : w14.cell? ⟨w.heap.size + 1, 0, none⟩ = some (.slice (some ⟨g9, 0, none⟩) (rs.length + 1) cap9) := by rw [(cellsAt MZ2).1]; rfl
                  have r1 : w14.cell? ⟨w.heap.size + 1, 1, none⟩ = some (.slice sl2 ps.length cap2) := by rw [(cellsAt MZ2).1]; rfl
                  go_wp2
                  exact bodyPost_ret (v := .tuple #[.agg #[.slice (some ⟨g9, 0, none⟩) (rs.length + 1) cap9, .slice sl2 ps.length cap2], .bool (B (TabR (rs ++ [(a, b, .slice (some ⟨g7, 2, none⟩) ds.length (c7 - 2), ds)]) ps))]) (by simp [results, Tryd.results10, go_sem, r0, r1]) rfl (by rw [HMs.out]; exact LinePost.of (ok := B (TabR (rs ++ [(a, b, .slice (some ⟨g7, 2, none⟩) ds.length (c7 - 2), ds)]) ps)) (rs := (rs ++ [(a, b, .slice (some ⟨g7, 2, none⟩) ds.length (c7 - 2), ds)])) (ps := ps) ⟨_, _, rfl, CZ.out, BZ.out.mono hB, keep_below BZ.out⟩ (fun hy => HYes.out (HX.out.1 hxe) hy) (fun hn => HNot.out (fun h2 => by rw [B_yes h2.2] at hn; cases hn)))

                · have hxf : (XB.toList == s.toList) = false := by simpa using hxe
                  refine wp_region_held_drew (S := fun W => W.cell? ⟨wr.heap.size, 0, none⟩ = some (.slice (some ⟨g9, 0, none⟩) (rs.length + 1) cap9) ∧ W.cell? ⟨wr.heap.size, 1, none⟩ = some (.slice sl2 ps.length cap2) ∧ W.cell? ⟨wr.heap.size + 1, 0, none⟩ = some (.int .i64 a) ∧ W.cell? ⟨wr.heap.size + 1, 1, none⟩ = some (.int .i64 b) ∧ W.cell? ⟨wr.heap.size + 1, 2, none⟩ = some (.slice (some ⟨g7, 2, none⟩) ds.length (c7 - 2))) (by kernel_rfl) ?_ (fun hHeld => ?_)
                  · exact KZ.out _ ((Below.refl _ _).drew)
                  refine wpAnyH_take (i := 0) (oi := _) (v := ?_) rfl (by kernel_rfl) (by kernel_rfl) (by kernel_rfl) (fun _ _ _ h => h) (Or.inl ⟨by rfl, ?_⟩) (by assumption) ?_
                  rotate_left
                  · first | (intro w hSw; (try dsimp only at hSw); go_simp; done) | (intro w hSw; (try dsimp only at hSw); go_simp; with_reducible rfl)
                  try simp only [Act.put, List.setIfInBounds_toArray, List.set_cons_zero, List.set_cons_succ, List.getElem_toArray, List.getElem_cons_zero]
                  refine wpAnyH_take (i := 1) (oi := _) (v := ?_) rfl (by kernel_rfl) (by kernel_rfl) (by kernel_rfl) (fun _ _ _ h => h) (Or.inl ⟨by rfl, ?_⟩) (by assumption) ?_
                  rotate_left
                  · first | (intro w hSw; (try dsimp only at hSw); go_simp; done) | (intro w hSw; (try dsimp only at hSw); go_simp; with_reducible rfl)
                  try simp only [Act.put, List.setIfInBounds_toArray, List.set_cons_zero, List.set_cons_succ, List.getElem_toArray, List.getElem_cons_succ, List.getElem_cons_zero]
                  refine wpAnyH_take (i := 3) (oi := _) (v := ?_) rfl (by kernel_rfl) (by kernel_rfl) (by kernel_rfl) (fun _ _ _ h => h) (Or.inl ⟨by rfl, ?_⟩) (by assumption) ?_
                  rotate_left
                  · first | (intro w hSw; (try dsimp only at hSw); go_simp; done) | (intro w hSw; (try dsimp only at hSw); go_simp; with_reducible rfl)
                  try simp only [Act.put, List.setIfInBounds_toArray, List.set_cons_zero, List.set_cons_succ, List.getElem_toArray, List.getElem_cons_succ, List.getElem_cons_zero]
                  refine wpAnyH_ready (rs := [2]) (by kernel_rfl) (by simp) ?_
                  refine AllReadyH.cons rfl (fun K hK => ?_) AllReadyH.nil
                  go_simp
                  go_wp2_with (go_at_call 17; refine (TS.out _ ((Below.refl _ _).drew)).mono ?_; rintro e w11 ⟨rfl, b11⟩; have B11 := Lib.hid (((Below.refl W2.heap.size W2).drew).trans b11); clear b11; have c11 := cellsAt ((B11.out.block (w.heap.size + 1) hn1).trans MR2.out))
                  refine hK.out _ _ ?_ (fun hHeld => ?_)
                  · exact KZ.out _ B11.out
                  clear hK K
                  refine wpAnyH_take (i := 4) (oi := _) (v := ?_) rfl (by kernel_rfl) (by kernel_rfl) (by kernel_rfl) (fun _ _ _ h => h) (Or.inl ⟨by rfl, ?_⟩) (by assumption) ?_
                  rotate_left
                  · first | (intro w hSw; (try dsimp only at hSw); go_simp; done) | (intro w hSw; (try dsimp only at hSw); go_simp; with_reducible rfl)
                  try simp only [Act.put, List.setIfInBounds_toArray, List.set_cons_zero, List.set_cons_succ, List.getElem_toArray, List.getElem_cons_succ, List.getElem_cons_zero]
                  refine wpAnyH_take (i := 5) (oi := _) (v := ?_) rfl (by kernel_rfl) (by kernel_rfl) (by kernel_rfl) (fun _ _ _ h => h) (Or.inl ⟨by rfl, ?_⟩) (by assumption) ?_
                  rotate_left
                  · first | (intro w hSw; (try dsimp only at hSw); go_simp; done) | (intro w hSw; (try dsimp only at hSw); go_simp; with_reducible rfl)
                  try simp only [Act.put, List.setIfInBounds_toArray, List.set_cons_zero, List.set_cons_succ, List.getElem_toArray, List.getElem_cons_succ, List.getElem_cons_zero]
                  refine wpAnyH_take (i := 6) (oi := _) (v := undef) rfl (by kernel_rfl) (by kernel_rfl) (by kernel_rfl) (fun _ _ _ h => h) (Or.inr ⟨by rfl, rfl⟩) (by assumption) ?_
                  try simp only [Act.put, List.setIfInBounds_toArray, List.set_cons_zero, List.set_cons_succ, List.getElem_toArray, List.getElem_cons_succ, List.getElem_cons_zero]
                  refine wpAnyH_take (i := 7) (oi := _) (v := undef) rfl (by kernel_rfl) (by kernel_rfl) (by kernel_rfl) (fun _ _ _ h => h) (Or.inr ⟨by rfl, rfl⟩) (by assumption) ?_
                  try simp only [Act.put, List.setIfInBounds_toArray, List.set_cons_zero, List.set_cons_succ, List.getElem_toArray, List.getElem_cons_succ, List.getElem_cons_zero]
                  refine wpAnyH_take (i := 8) (oi := _) (v := ?_) rfl (by kernel_rfl) (by kernel_rfl) (by kernel_rfl) (fun _ _ _ h => h) (Or.inl ⟨by rfl, ?_⟩) (by assumption) ?_
                  rotate_left
                  · first | (intro w hSw; (try dsimp only at hSw); go_simp; done) | (intro w hSw; (try dsimp only at hSw); go_simp; with_reducible rfl)
                  try simp only [Act.put, List.setIfInBounds_toArray, List.set_cons_zero, List.set_cons_succ, List.getElem_toArray, List.getElem_cons_succ, List.getElem_cons_zero]
                  refine wpAnyH_ready (rs := [9]) (by kernel_rfl) (by simp) ?_
                  refine AllReadyH.cons rfl (fun K hK => ?_) AllReadyH.nil
                  go_simp
                  go_wp2
                  refine hK.out _ _ ?_ (fun hHeld => ?_)
                  · exact (fun hX => ⟨(set2_cell _ _ _ _ _ _ (by omega)).trans hX.1, (set2_cell _ _ _ _ _ _ (by omega)).trans hX.2.1, (set2_cell _ _ _ _ _ _ (by omega)).trans hX.2.2.1, (set2_cell _ _ _ _ _ _ (by omega)).trans hX.2.2.2.1, (set2_cell _ _ _ _ _ _ (by omega)).trans hX.2.2.2.2⟩) (KZ.out _ B11.out)
                  clear hK K
                  refine wpAnyH_take (i := 10) (oi := _) (v := ?_) rfl (by kernel_rfl) (by kernel_rfl) (by kernel_rfl) (fun _ _ _ h => h) (Or.inl ⟨by rfl, ?_⟩) (by assumption) ?_
                  rotate_left
                  · first | (intro w hSw; (try dsimp only at hSw); go_simp; done) | (intro w hSw; (try dsimp only at hSw); go_simp; with_reducible rfl)
                  try simp only [Act.put, List.setIfInBounds_toArray, List.set_cons_zero, List.set_cons_succ, List.getElem_toArray, List.getElem_cons_succ, List.getElem_cons_zero]
                  refine wpAnyH_done (by kernel_rfl) ?_ _
                  have MZ0 := (B11.out.block (w.heap.size + 1) hn1).trans MR2.out
                  have MZ1 := heap_setCell_same w11 (w.heap.size + 1) 0 _ 25 (.slice (some ⟨g9, 0, none⟩) (rs.length + 1) cap9) MZ0
                  have MZ2 := heap_setCell_same _ (w.heap.size + 1) 1 _ 25 (.slice sl2 ps.length cap2) MZ1
                  have CZ := Lib.hid (((CO.out.below B11.out).keptB MZ0 (grown_set w11 (w.heap.size + 1) 0 (.slice (some ⟨g9, 0, none⟩) (rs.length + 1) cap9))).keptB MZ1 (grown_set _ (w.heap.size + 1) 1 (.slice sl2 ps.length cap2)))
                  have BZ := Lib.hid (((bT BT2.out B11.out).setCell (p := ⟨w.heap.size + 1, 0, none⟩) (by show w.heap.size ≤ w.heap.size + 1; omega) (.slice (some ⟨g9, 0, none⟩) (rs.length + 1) cap9)).setCell (p := ⟨w.heap.size + 1, 1, none⟩) (by show w.heap.size ≤ w.heap.size + 1; omega) (.slice sl2 ps.length cap2))
                  generalize (w11.setCell ⟨w.heap.size + 1, 0, none⟩ (.slice (some ⟨g9, 0, none⟩) (rs.length + 1) cap9)).setCell ⟨w.heap.size + 1, 1, none⟩ (.slice sl2 ps.length cap2) = w14 at *
                  have r0 : w14.cell? ⟨w.heap.size + 1, 0, none⟩ = some (.slice (some ⟨g9, 0, none⟩) (rs.length + 1) cap9) := by rw [(cellsAt MZ2).1]; rfl
                  have r1 : w14.cell? ⟨w.heap.size + 1, 1, none⟩ = some (.slice sl2 ps.length cap2) := by rw [(cellsAt MZ2).1]; rfl
                  go_wp2
                  exact bodyPost_ret (v := .tuple #[.agg #[.slice (some ⟨g9, 0, none⟩) (rs.length + 1) cap9, .slice sl2 ps.length cap2], .bool false]) (by simp [results, Tryd.results10, go_sem, r0, r1]) rfl (by rw [HMs.out]; exact LinePost.of (ok := false) (rs := (rs ++ [(a, b, .slice (some ⟨g7, 2, none⟩) ds.length (c7 - 2), ds)])) (ps := ps) ⟨_, _, rfl, CZ.out, BZ.out.mono hB, keep_below BZ.out⟩ (fun hy => by cases hy) (fun _ => HNot.out (fun h2 => hxe (HX.out.2 h2.1))))
        · go_simp
          go_wp2
          refine hK.out _ _ ?_ (fun hHeld => ?_)
          · exact KS.out _ (BX1.out.alloc BX1.out.size _)
          clear hK K hHeld
          have BX6 := Lib.hid (BX1.out.alloc BX1.out.size (.cells #[.int .i64 a, .int .i64 b, .slice (some ⟨g7, 2, none⟩) ds.length (c7 - 2)] 43))
          have OX6 := Lib.hid (own_below OX1.out (bA0 w1_ (.cells #[.int .i64 a, .int .i64 b, .slice (some ⟨g7, 2, none⟩) ds.length (c7 - 2)] 43)))
          have SC6 := Lib.hid (cell_three_new w1_ (.int .i64 a) (.int .i64 b) (.slice (some ⟨g7, 2, none⟩) ds.length (c7 - 2)) 43)
          have hl6 : w1_.heap.size < (w1_.alloc (.cells #[.int .i64 a, .int .i64 b, .slice (some ⟨g7, 2, none⟩) ds.length (c7 - 2)] 43)).heap.size := by simp
          have hm6 := BX1.out.size
          have hb6 := Nat.lt_trans hb1 hl6
          generalize w1_.alloc (.cells #[.int .i64 a, .int .i64 b, .slice (some ⟨g7, 2, none⟩) ds.length (c7 - 2)] 43) = w6_ at *
          generalize w1_.heap.size = bk6 at *
          have hs6 := hl6
          refine wpAnyH_ready (rs := [3]) (by kernel_rfl) (by simp) ?_
          refine (AllReadyH.cons rfl (fun K hK => ?_) AllReadyH.nil)
          · refine step_append_own rfl (.tmp 64) (.tmp 66) 22 43 rfl iS (.agg #[.int .i64 0, .int .i64 0, .slice none 0 0]) 3 40 Tryd.underlying22 hiS hzS0 hzS1 hzS2 rfl (by decide) (by decide) W1.heap.size bk1 (by simp [Act.eval, Act.put]) OX6.out C (.slice sl1 rs.length cap1) rs.length (stC rs) (by simp [Act.eval, Act.put]) ((OT1.out.below (BX6.out)).r1) (stC_one rs (OT1.out.below (BX6.out)).dom) (by omega) BX6.out.size ?_
            intro x7_ y7_ w7_ on7 gn7
            have BX7 := Lib.hid (BX6.out.grown gn7 BX6.out.size (fun k hk => by cases hk; exact (World.ownsRow.lt OX6.out bk1 rfl).1))
            refine hK.out _ _ ?_ (fun hHeld => ?_)
            · exact KS.out _ BX7.out
            clear hK K hHeld
            have OX7 := Lib.hid on7
            have hne7 : bk6 ≠ bk1 := by omega
            have SC7 := Lib.hid (sc_below SC6.out hs6 (gn7.block bk6 hs6 (fun e => hne7 (Option.some.inj e))))
            have hs7 := Nat.lt_of_lt_of_le hs6 gn7.size
            clear on7 gn7
            refine wpAnyH_ready (rs := [6]) (by kernel_rfl) (by simp) ?_
            refine (AllReadyH.cons rfl (fun K hK => ?_) AllReadyH.nil)
            · refine step_append_lies _ rfl (.tmp 67) (.tmp 69) 22 rfl W1.heap.size 43 iS _ 3 40 Tryd.underlying22 hiS hzS0 hzS1 hzS2 rfl (by decide) (.slice x7_ rs.length y7_) rs.length (stC rs) (by simp [Act.eval, Act.put]) OX7.out ⟨bk6, 0, none⟩ 1 1 [.int .i64 a, .int .i64 b, .slice (some ⟨g7, 2, none⟩) ds.length (c7 - 2)] (by simp [Act.eval, Act.put]) rfl SC7.out (by simp [Value.oneCell']) (by decide) (by unfold maxLen; omega) (by omega) BX7.out.size _ rfl ?_
              intro g9 cap9 w8_ on8 gn8 hg8 hlt8
              have BX8 := Lib.hid (BX7.out.grown gn8 BX7.out.size (fun k hk => (World.ownsRow.lt OX7.out k hk).1))
              refine hK.out _ _ ?_ (fun hHeld => ?_)
              · exact KS.out _ BX8.out
              clear hK K hHeld
              have OX8 := Lib.hid on8
              clear on8 gn8 hg8 hlt8
              try simp only [Act.put, List.setIfInBounds_toArray, List.set_cons_zero, List.set_cons_succ, List.getElem_toArray, List.getElem_cons_succ, List.getElem_cons_zero]
              have hHeld := KS.out _ BX8.out
              refine wpAnyH_take (i := 7) (oi := _) (v := ?_) rfl (by kernel_rfl) (by kernel_rfl) (by kernel_rfl) (fun _ _ _ h => h) (Or.inl ⟨by rfl, ?_⟩) (by assumption) ?_
              rotate_left
              · first | (intro w hSw; (try dsimp only at hSw); go_simp; done) | (intro w hSw; (try dsimp only at hSw); go_simp; with_reducible rfl)
              try simp only [Act.put, List.setIfInBounds_toArray, List.set_cons_zero, List.set_cons_succ, List.getElem_toArray, List.getElem_cons_succ, List.getElem_cons_zero]
              clear hHeld
              refine wpAnyH_ready (rs := [8]) (by kernel_rfl) (by simp) ?_
              refine (AllReadyH.cons rfl (fun K hK => ?_) AllReadyH.nil)
              · have cO9 := cellsAt ((BX8.out.block wr.heap.size hobl).trans MO1.out)
                go_simp
                go_wp2
                refine hK.out _ _ ?_ (fun hHeld => ?_)
                · exact ⟨(World.cell?_of_block (Below.heap_setCell _ _ _ _ (by show w.heap.size ≠ wr.heap.size; omega))).trans (KS.out _ BX8.out).1, (World.cell?_of_block (Below.heap_setCell _ _ _ _ (by show wr.heap.size + 1 ≠ wr.heap.size; omega))).trans (KS.out _ BX8.out).2.1, (World.cell?_of_block (Below.heap_setCell _ _ _ _ (by show wr.heap.size + 1 ≠ wr.heap.size; omega))).trans (KS.out _ BX8.out).2.2.1, (World.cell?_of_block (Below.heap_setCell _ _ _ _ (by show wr.heap.size + 1 ≠ wr.heap.size; omega))).trans (KS.out _ BX8.out).2.2.2⟩
                clear hK K hHeld cO9
                refine wpAnyH_done (by kernel_rfl) ?_ _
                have MO2 := Lib.hid (heap_setCell_same w8_ wr.heap.size 0 _ 25 (.slice (some ⟨g9, 0, none⟩) (rs.length + 1) cap9) ((BX8.out.block wr.heap.size hobl).trans MO1.out))
                have MR2 := Lib.hid ((Below.heap_setCell w8_ ⟨wr.heap.size, 0, none⟩ (.slice (some ⟨g9, 0, none⟩) (rs.length + 1) cap9) (w.heap.size + 1) (by show w.heap.size + 1 ≠ wr.heap.size; omega)).trans ((BX8.out.block (w.heap.size + 1) hn1l).trans MR1.out))
                have MS2 := Lib.hid ((Below.heap_setCell w8_ ⟨wr.heap.size, 0, none⟩ (.slice (some ⟨g9, 0, none⟩) (rs.length + 1) cap9) (wr.heap.size + 1) (by show wr.heap.size + 1 ≠ wr.heap.size; omega)).trans ((BX8.out.block (wr.heap.size + 1) hsbl).trans MS1.out))
                have MOb := Lib.hid ((BX8.out.block wr.heap.size hobl).trans MO1.out)
                have CO : Hid (OwT (w8_.setCell ⟨wr.heap.size, 0, none⟩ (.slice (some ⟨g9, 0, none⟩) (rs.length + 1) cap9)) C (.slice (some ⟨g9, 0, none⟩) (rs.length + 1) cap9) (.slice sl2 ps.length cap2) (rs ++ [(a, b, .slice (some ⟨g7, 2, none⟩) ds.length (c7 - 2), ds)]) ps) := by
                  have oo := OT1.out.below BX8.out
                  have gs := grown_set w8_ wr.heap.size 0 (.slice (some ⟨g9, 0, none⟩) (rs.length + 1) cap9)
                  refine ⟨?_, own_keptB oo.r2 MOb.out (by decide) gs, fun r hr => ?_, ?_⟩
                  · have := own_keptB (own_mono OX8.out hC1) MOb.out (by decide) gs
                    rw [List.length_append, stC_add]
                    exact this
                  · rcases List.mem_append.1 hr with hr | hr
                    · exact (oo.dom r hr).keptB MOb.out (by decide) gs
                    · rw [List.mem_singleton.1 hr]
                      exact (T1.out.below BX8.out).keptB MOb.out (by decide) gs
                  · refine List.pairwise_append.2 ⟨oo.diff, List.pairwise_singleton _ _, fun s' hs' t ht => ?_⟩
                    rw [List.mem_singleton.1 ht]
                    exact hFr s' hs'
                have BT2 := Lib.hid ((bT BN1.out BX8.out).setCell (p := ⟨wr.heap.size, 0, none⟩) (by show w.heap.size ≤ wr.heap.size; omega) (.slice (some ⟨g9, 0, none⟩) (rs.length + 1) cap9))
                have IZ := Lib.hid ((HZ1.out.below BX8.out))
                have hn1 : w.heap.size + 1 < (w8_.setCell ⟨wr.heap.size, 0, none⟩ (.slice (some ⟨g9, 0, none⟩) (rs.length + 1) cap9)).heap.size := (Array.getElem?_eq_some_iff.1 MR2.out).1
                have hl0 : wr.heap.size < (w8_.setCell ⟨wr.heap.size, 0, none⟩ (.slice (some ⟨g9, 0, none⟩) (rs.length + 1) cap9)).heap.size := (Array.getElem?_eq_some_iff.1 MO2.out).1
                have hl1 : wr.heap.size + 1 < (w8_.setCell ⟨wr.heap.size, 0, none⟩ (.slice (some ⟨g9, 0, none⟩) (rs.length + 1) cap9)).heap.size := (Array.getElem?_eq_some_iff.1 MS2.out).1
                have TL := Lib.hid ((CO.out.dom _ (List.mem_append_right _ (List.mem_singleton.2 rfl))).dm)
                generalize w8_.setCell ⟨wr.heap.size, 0, none⟩ (.slice (some ⟨g9, 0, none⟩) (rs.length + 1) cap9) = W2 at *
                have KZ : Hid (∀ W, Below W2.heap.size W2 W → W.cell? ⟨wr.heap.size, 0, none⟩ = some (.slice (some ⟨g9, 0, none⟩) (rs.length + 1) cap9) ∧ W.cell? ⟨wr.heap.size, 1, none⟩ = some (.slice sl2 ps.length cap2) ∧ W.cell? ⟨wr.heap.size + 1, 0, none⟩ = some (.int .i64 a) ∧ W.cell? ⟨wr.heap.size + 1, 1, none⟩ = some (.int .i64 b) ∧ W.cell? ⟨wr.heap.size + 1, 2, none⟩ = some (.slice (some ⟨g7, 2, none⟩) ds.length (c7 - 2))) := fun W hW => ⟨(hW.cell hl0).trans (by rw [(cellsAt MO2.out).1]; rfl), (hW.cell hl0).trans (by rw [(cellsAt MO2.out).1]; rfl), (hW.cell hl1).trans (by rw [(cellsAt MS2.out).1]; rfl), (hW.cell hl1).trans (by rw [(cellsAt MS2.out).1]; rfl), (hW.cell hl1).trans (by rw [(cellsAt MS2.out).1]; rfl)⟩
                have TC : Hid (∀ W, Below W2.heap.size W2 W → Calls Tryd.prog 18 #[.agg #[.slice (some ⟨g9, 0, none⟩) (rs.length + 1) cap9, .slice sl2 ps.length cap2]] W fun e w' => e = .returned (.bool (B (TabR (rs ++ [(a, b, .slice (some ⟨g7, 2, none⟩) ds.length (c7 - 2), ds)]) ps))) ∧ Below W.heap.size W w') := fun W hW => by
                  have hC := CO.out.below hW
                  obtain ⟨s1, k1, ev, hst⟩ := own_st hC
                  obtain ⟨s2, k2, ev2, hpr⟩ := own_pr hC
                  have := str_any s1 k1 s2 k2 _ _ W hst hpr
                  rw [ev, ev2]
                  exact this
                have TS : Hid (∀ W, Below W2.heap.size W2 W → Calls Tryd.prog 17 #[.agg #[.int .i64 a, .int .i64 b, .slice (some ⟨g7, 2, none⟩) ds.length (c7 - 2)]] W fun e w' => e = .returned (.string ⟨(statB a b ds).toArray⟩) ∧ Below W.heap.size W w') := fun W hW => by
                  obtain ⟨sx, cx, ex, ix, _⟩ := TL.out
                  have ex' : .slice (some ⟨g7, 2, none⟩) ds.length (c7 - 2) = Value.slice sx ds.length cx := ex
                  have := stt_any a b sx cx ds W hab.out.1 hab.out.2.1 (by omega) hab.out.2.2 (ix.below hW)
                  rw [ex']
                  exact this
                have HX : Hid ((((⟨(statB a b ds).toArray⟩ : ByteArray).toList == s.toList) = true) ↔ staW ++ numsT z = s.data.toList) := by
                  show _ ↔ _
                  rw [beq_iff_eq, Go.ByteArray.toList_eq, Go.ByteArray.toList_eq, HZZ.out, ← stat_words]
                clear IZ
                generalize hXB : (⟨(statB a b ds).toArray⟩ : ByteArray) = XB at *
                clear hXB
                go_wp2_with fail
                by_cases hxe : (XB.toList == s.toList) = true
                · refine wp_region_held_drew (S := fun W => W.cell? ⟨wr.heap.size, 0, none⟩ = some (.slice (some ⟨g9, 0, none⟩) (rs.length + 1) cap9) ∧ W.cell? ⟨wr.heap.size, 1, none⟩ = some (.slice sl2 ps.length cap2) ∧ W.cell? ⟨wr.heap.size + 1, 0, none⟩ = some (.int .i64 a) ∧ W.cell? ⟨wr.heap.size + 1, 1, none⟩ = some (.int .i64 b) ∧ W.cell? ⟨wr.heap.size + 1, 2, none⟩ = some (.slice (some ⟨g7, 2, none⟩) ds.length (c7 - 2))) (by kernel_rfl) ?_ (fun hHeld => ?_)
                  · exact KZ.out _ ((Below.refl _ _).drew)
                  refine wpAnyH_take (i := 0) (oi := _) (v := ?_) rfl (by kernel_rfl) (by kernel_rfl) (by kernel_rfl) (fun _ _ _ h => h) (Or.inl ⟨by rfl, ?_⟩) (by assumption) ?_
                  rotate_left
                  · first | (intro w hSw; (try dsimp only at hSw); go_simp; done) | (intro w hSw; (try dsimp only at hSw); go_simp; with_reducible rfl)
                  try simp only [Act.put, List.setIfInBounds_toArray, List.set_cons_zero, List.set_cons_succ, List.getElem_toArray, List.getElem_cons_zero]
                  refine wpAnyH_take (i := 1) (oi := _) (v := ?_) rfl (by kernel_rfl) (by kernel_rfl) (by kernel_rfl) (fun _ _ _ h => h) (Or.inl ⟨by rfl, ?_⟩) (by assumption) ?_
                  rotate_left
                  · first | (intro w hSw; (try dsimp only at hSw); go_simp; done) | (intro w hSw; (try dsimp only at hSw); go_simp; with_reducible rfl)
                  try simp only [Act.put, List.setIfInBounds_toArray, List.set_cons_zero, List.set_cons_succ, List.getElem_toArray, List.getElem_cons_succ, List.getElem_cons_zero]
                  refine wpAnyH_take (i := 3) (oi := _) (v := ?_) rfl (by kernel_rfl) (by kernel_rfl) (by kernel_rfl) (fun _ _ _ h => h) (Or.inl ⟨by rfl, ?_⟩) (by assumption) ?_
                  rotate_left
                  · first | (intro w hSw; (try dsimp only at hSw); go_simp; done) | (intro w hSw; (try dsimp only at hSw); go_simp; with_reducible rfl)
                  try simp only [Act.put, List.setIfInBounds_toArray, List.set_cons_zero, List.set_cons_succ, List.getElem_toArray, List.getElem_cons_succ, List.getElem_cons_zero]
                  refine wpAnyH_ready (rs := [2]) (by kernel_rfl) (by simp) ?_
                  refine AllReadyH.cons rfl (fun K hK => ?_) AllReadyH.nil
                  go_simp
                  go_wp2_with (go_at_call 17; refine (TS.out _ ((Below.refl _ _).drew)).mono ?_; rintro e w11 ⟨rfl, b11⟩; have B11 := Lib.hid (((Below.refl W2.heap.size W2).drew).trans b11); clear b11)
                  refine hK.out _ _ ?_ (fun hHeld => ?_)
                  · exact KZ.out _ B11.out
                  clear hK K
                  refine wpAnyH_take (i := 4) (oi := _) (v := ?_) rfl (by kernel_rfl) (by kernel_rfl) (by kernel_rfl) (fun _ _ _ h => h) (Or.inl ⟨by rfl, ?_⟩) (by assumption) ?_
                  rotate_left
                  · first | (intro w hSw; (try dsimp only at hSw); go_simp; done) | (intro w hSw; (try dsimp only at hSw); go_simp; with_reducible rfl)
                  try simp only [Act.put, List.setIfInBounds_toArray, List.set_cons_zero, List.set_cons_succ, List.getElem_toArray, List.getElem_cons_succ, List.getElem_cons_zero]
                  refine wpAnyH_take (i := 5) (oi := _) (v := ?_) rfl (by kernel_rfl) (by kernel_rfl) (by kernel_rfl) (fun _ _ _ h => h) (Or.inl ⟨by rfl, ?_⟩) (by assumption) ?_
                  rotate_left
                  · first | (intro w hSw; (try dsimp only at hSw); go_simp; done) | (intro w hSw; (try dsimp only at hSw); go_simp; with_reducible rfl)
                  try simp only [Act.put, List.setIfInBounds_toArray, List.set_cons_zero, List.set_cons_succ, List.getElem_toArray, List.getElem_cons_succ, List.getElem_cons_zero]
                  refine wpAnyH_take (i := 6) (oi := _) (v := ?_) rfl (by kernel_rfl) (by kernel_rfl) (by kernel_rfl) (fun _ _ _ h => h) (Or.inl ⟨by rfl, ?_⟩) (by assumption) ?_
                  rotate_left
                  · first | (intro w hSw; (try dsimp only at hSw); go_simp; done) | (intro w hSw; (try dsimp only at hSw); go_simp; with_reducible rfl)
                  try simp only [Act.put, List.setIfInBounds_toArray, List.set_cons_zero, List.set_cons_succ, List.getElem_toArray, List.getElem_cons_succ, List.getElem_cons_zero]
                  refine wpAnyH_ready (rs := [7]) (by kernel_rfl) (by simp) ?_
                  refine AllReadyH.cons rfl (fun K hK => ?_) AllReadyH.nil
                  go_simp
                  go_wp2_with (go_at_call 18; refine (TC.out _ B11.out).mono ?_; rintro e w12 ⟨rfl, b12⟩; have B12 := Lib.hid (bT B11.out b12); have c12 := cellsAt ((B12.out.block (w.heap.size + 1) hn1).trans MR2.out); clear b12)
                  refine hK.out _ _ ?_ (fun hHeld => ?_)
                  · exact KZ.out _ B12.out
                  clear hK K
                  refine wpAnyH_take (i := 8) (oi := _) (v := ?_) rfl (by kernel_rfl) (by kernel_rfl) (by kernel_rfl) (fun _ _ _ h => h) (Or.inl ⟨by rfl, ?_⟩) (by assumption) ?_
                  rotate_left
                  · first | (intro w hSw; (try dsimp only at hSw); go_simp; done) | (intro w hSw; (try dsimp only at hSw); go_simp; with_reducible rfl)
                  try simp only [Act.put, List.setIfInBounds_toArray, List.set_cons_zero, List.set_cons_succ, List.getElem_toArray, List.getElem_cons_succ, List.getElem_cons_zero]
                  refine wpAnyH_ready (rs := [9]) (by kernel_rfl) (by simp) ?_
                  refine AllReadyH.cons rfl (fun K hK => ?_) AllReadyH.nil
                  go_simp
                  go_wp2
                  refine hK.out _ _ ?_ (fun hHeld => ?_)
                  · exact (fun hX => ⟨(set2_cell _ _ _ _ _ _ (by omega)).trans hX.1, (set2_cell _ _ _ _ _ _ (by omega)).trans hX.2.1, (set2_cell _ _ _ _ _ _ (by omega)).trans hX.2.2.1, (set2_cell _ _ _ _ _ _ (by omega)).trans hX.2.2.2.1, (set2_cell _ _ _ _ _ _ (by omega)).trans hX.2.2.2.2⟩) (KZ.out _ B12.out)
                  clear hK K
                  refine wpAnyH_take (i := 10) (oi := _) (v := ?_) rfl (by kernel_rfl) (by kernel_rfl) (by kernel_rfl) (fun _ _ _ h => h) (Or.inl ⟨by rfl, ?_⟩) (by assumption) ?_
                  rotate_left
                  · first | (intro w hSw; (try dsimp only at hSw); go_simp; done) | (intro w hSw; (try dsimp only at hSw); go_simp; with_reducible rfl)
                  try simp only [Act.put, List.setIfInBounds_toArray, List.set_cons_zero, List.set_cons_succ, List.getElem_toArray, List.getElem_cons_succ, List.getElem_cons_zero]
                  refine wpAnyH_done (by kernel_rfl) ?_ _
                  have MZ0 := (B12.out.block (w.heap.size + 1) hn1).trans MR2.out
                  have MZ1 := heap_setCell_same w12 (w.heap.size + 1) 0 _ 25 (.slice (some ⟨g9, 0, none⟩) (rs.length + 1) cap9) MZ0
                  have MZ2 := heap_setCell_same _ (w.heap.size + 1) 1 _ 25 (.slice sl2 ps.length cap2) MZ1
                  have CZ := Lib.hid (((CO.out.below B12.out).keptB MZ0 (grown_set w12 (w.heap.size + 1) 0 (.slice (some ⟨g9, 0, none⟩) (rs.length + 1) cap9))).keptB MZ1 (grown_set _ (w.heap.size + 1) 1 (.slice sl2 ps.length cap2)))
                  have BZ := Lib.hid (((bT BT2.out B12.out).setCell (p := ⟨w.heap.size + 1, 0, none⟩) (by show w.heap.size ≤ w.heap.size + 1; omega) (.slice (some ⟨g9, 0, none⟩) (rs.length + 1) cap9)).setCell (p := ⟨w.heap.size + 1, 1, none⟩) (by show w.heap.size ≤ w.heap.size + 1; omega) (.slice sl2 ps.length cap2))
                  generalize (w12.setCell ⟨w.heap.size + 1, 0, none⟩ (.slice (some ⟨g9, 0, none⟩) (rs.length + 1) cap9)).setCell ⟨w.heap.size + 1, 1, none⟩ (.slice sl2 ps.length cap2) = w14 at *
                  have r0 : w14.cell? ⟨w.heap.size + 1, 0, none⟩ = some (.slice (some ⟨g9, 0, none⟩) (rs.length + 1) cap9) := by rw [(cellsAt MZ2).1]; rfl
                  have r1 : w14.cell? ⟨w.heap.size + 1, 1, none⟩ = some (.slice sl2 ps.length cap2) := by rw [(cellsAt MZ2).1]; rfl
                  go_wp2
                  exact bodyPost_ret (v := .tuple #[.agg #[.slice (some ⟨g9, 0, none⟩) (rs.length + 1) cap9, .slice sl2 ps.length cap2], .bool (B (TabR (rs ++ [(a, b, .slice (some ⟨g7, 2, none⟩) ds.length (c7 - 2), ds)]) ps))]) (by simp [results, Tryd.results10, go_sem, r0, r1]) rfl (by rw [HMs.out]; exact LinePost.of (ok := B (TabR (rs ++ [(a, b, .slice (some ⟨g7, 2, none⟩) ds.length (c7 - 2), ds)]) ps)) (rs := (rs ++ [(a, b, .slice (some ⟨g7, 2, none⟩) ds.length (c7 - 2), ds)])) (ps := ps) ⟨_, _, rfl, CZ.out, BZ.out.mono hB, keep_below BZ.out⟩ (fun hy => HYes.out (HX.out.1 hxe) hy) (fun hn => HNot.out (fun h2 => by rw [B_yes h2.2] at hn; cases hn)))

                · have hxf : (XB.toList == s.toList) = false := by simpa using hxe
                  refine wp_region_held_drew (S := fun W => W.cell? ⟨wr.heap.size, 0, none⟩ = some (.slice (some ⟨g9, 0, none⟩) (rs.length + 1) cap9) ∧ W.cell? ⟨wr.heap.size, 1, none⟩ = some (.slice sl2 ps.length cap2) ∧ W.cell? ⟨wr.heap.size + 1, 0, none⟩ = some (.int .i64 a) ∧ W.cell? ⟨wr.heap.size + 1, 1, none⟩ = some (.int .i64 b) ∧ W.cell? ⟨wr.heap.size + 1, 2, none⟩ = some (.slice (some ⟨g7, 2, none⟩) ds.length (c7 - 2))) (by kernel_rfl) ?_ (fun hHeld => ?_)
                  · exact KZ.out _ ((Below.refl _ _).drew)
                  refine wpAnyH_take (i := 0) (oi := _) (v := ?_) rfl (by kernel_rfl) (by kernel_rfl) (by kernel_rfl) (fun _ _ _ h => h) (Or.inl ⟨by rfl, ?_⟩) (by assumption) ?_
                  rotate_left
                  · first | (intro w hSw; (try dsimp only at hSw); go_simp; done) | (intro w hSw; (try dsimp only at hSw); go_simp; with_reducible rfl)
                  try simp only [Act.put, List.setIfInBounds_toArray, List.set_cons_zero, List.set_cons_succ, List.getElem_toArray, List.getElem_cons_zero]
                  refine wpAnyH_take (i := 1) (oi := _) (v := ?_) rfl (by kernel_rfl) (by kernel_rfl) (by kernel_rfl) (fun _ _ _ h => h) (Or.inl ⟨by rfl, ?_⟩) (by assumption) ?_
                  rotate_left
                  · first | (intro w hSw; (try dsimp only at hSw); go_simp; done) | (intro w hSw; (try dsimp only at hSw); go_simp; with_reducible rfl)
                  try simp only [Act.put, List.setIfInBounds_toArray, List.set_cons_zero, List.set_cons_succ, List.getElem_toArray, List.getElem_cons_succ, List.getElem_cons_zero]
                  refine wpAnyH_take (i := 3) (oi := _) (v := ?_) rfl (by kernel_rfl) (by kernel_rfl) (by kernel_rfl) (fun _ _ _ h => h) (Or.inl ⟨by rfl, ?_⟩) (by assumption) ?_
                  rotate_left
                  · first | (intro w hSw; (try dsimp only at hSw); go_simp; done) | (intro w hSw; (try dsimp only at hSw); go_simp; with_reducible rfl)
                  try simp only [Act.put, List.setIfInBounds_toArray, List.set_cons_zero, List.set_cons_succ, List.getElem_toArray, List.getElem_cons_succ, List.getElem_cons_zero]
                  refine wpAnyH_ready (rs := [2]) (by kernel_rfl) (by simp) ?_
                  refine AllReadyH.cons rfl (fun K hK => ?_) AllReadyH.nil
                  go_simp
                  go_wp2_with (go_at_call 17; refine (TS.out _ ((Below.refl _ _).drew)).mono ?_; rintro e w11 ⟨rfl, b11⟩; have B11 := Lib.hid (((Below.refl W2.heap.size W2).drew).trans b11); clear b11; have c11 := cellsAt ((B11.out.block (w.heap.size + 1) hn1).trans MR2.out))
                  refine hK.out _ _ ?_ (fun hHeld => ?_)
                  · exact KZ.out _ B11.out
                  clear hK K
                  refine wpAnyH_take (i := 4) (oi := _) (v := ?_) rfl (by kernel_rfl) (by kernel_rfl) (by kernel_rfl) (fun _ _ _ h => h) (Or.inl ⟨by rfl, ?_⟩) (by assumption) ?_
                  rotate_left
                  · first | (intro w hSw; (try dsimp only at hSw); go_simp; done) | (intro w hSw; (try dsimp only at hSw); go_simp; with_reducible rfl)
                  try simp only [Act.put, List.setIfInBounds_toArray, List.set_cons_zero, List.set_cons_succ, List.getElem_toArray, List.getElem_cons_succ, List.getElem_cons_zero]
                  refine wpAnyH_take (i := 5) (oi := _) (v := ?_) rfl (by kernel_rfl) (by kernel_rfl) (by kernel_rfl) (fun _ _ _ h => h) (Or.inl ⟨by rfl, ?_⟩) (by assumption) ?_
                  rotate_left
                  · first | (intro w hSw; (try dsimp only at hSw); go_simp; done) | (intro w hSw; (try dsimp only at hSw); go_simp; with_reducible rfl)
                  try simp only [Act.put, List.setIfInBounds_toArray, List.set_cons_zero, List.set_cons_succ, List.getElem_toArray, List.getElem_cons_succ, List.getElem_cons_zero]
                  refine wpAnyH_take (i := 6) (oi := _) (v := undef) rfl (by kernel_rfl) (by kernel_rfl) (by kernel_rfl) (fun _ _ _ h => h) (Or.inr ⟨by rfl, rfl⟩) (by assumption) ?_
                  try simp only [Act.put, List.setIfInBounds_toArray, List.set_cons_zero, List.set_cons_succ, List.getElem_toArray, List.getElem_cons_succ, List.getElem_cons_zero]
                  refine wpAnyH_take (i := 7) (oi := _) (v := undef) rfl (by kernel_rfl) (by kernel_rfl) (by kernel_rfl) (fun _ _ _ h => h) (Or.inr ⟨by rfl, rfl⟩) (by assumption) ?_
                  try simp only [Act.put, List.setIfInBounds_toArray, List.set_cons_zero, List.set_cons_succ, List.getElem_toArray, List.getElem_cons_succ, List.getElem_cons_zero]
                  refine wpAnyH_take (i := 8) (oi := _) (v := ?_) rfl (by kernel_rfl) (by kernel_rfl) (by kernel_rfl) (fun _ _ _ h => h) (Or.inl ⟨by rfl, ?_⟩) (by assumption) ?_
                  rotate_left
                  · first | (intro w hSw; (try dsimp only at hSw); go_simp; done) | (intro w hSw; (try dsimp only at hSw); go_simp; with_reducible rfl)
                  try simp only [Act.put, List.setIfInBounds_toArray, List.set_cons_zero, List.set_cons_succ, List.getElem_toArray, List.getElem_cons_succ, List.getElem_cons_zero]
                  refine wpAnyH_ready (rs := [9]) (by kernel_rfl) (by simp) ?_
                  refine AllReadyH.cons rfl (fun K hK => ?_) AllReadyH.nil
                  go_simp
                  go_wp2
                  refine hK.out _ _ ?_ (fun hHeld => ?_)
                  · exact (fun hX => ⟨(set2_cell _ _ _ _ _ _ (by omega)).trans hX.1, (set2_cell _ _ _ _ _ _ (by omega)).trans hX.2.1, (set2_cell _ _ _ _ _ _ (by omega)).trans hX.2.2.1, (set2_cell _ _ _ _ _ _ (by omega)).trans hX.2.2.2.1, (set2_cell _ _ _ _ _ _ (by omega)).trans hX.2.2.2.2⟩) (KZ.out _ B11.out)
                  clear hK K
                  refine wpAnyH_take (i := 10) (oi := _) (v := ?_) rfl (by kernel_rfl) (by kernel_rfl) (by kernel_rfl) (fun _ _ _ h => h) (Or.inl ⟨by rfl, ?_⟩) (by assumption) ?_
                  rotate_left
                  · first | (intro w hSw; (try dsimp only at hSw); go_simp; done) | (intro w hSw; (try dsimp only at hSw); go_simp; with_reducible rfl)
                  try simp only [Act.put, List.setIfInBounds_toArray, List.set_cons_zero, List.set_cons_succ, List.getElem_toArray, List.getElem_cons_succ, List.getElem_cons_zero]
                  refine wpAnyH_done (by kernel_rfl) ?_ _
                  have MZ0 := (B11.out.block (w.heap.size + 1) hn1).trans MR2.out
                  have MZ1 := heap_setCell_same w11 (w.heap.size + 1) 0 _ 25 (.slice (some ⟨g9, 0, none⟩) (rs.length + 1) cap9) MZ0
                  have MZ2 := heap_setCell_same _ (w.heap.size + 1) 1 _ 25 (.slice sl2 ps.length cap2) MZ1
                  have CZ := Lib.hid (((CO.out.below B11.out).keptB MZ0 (grown_set w11 (w.heap.size + 1) 0 (.slice (some ⟨g9, 0, none⟩) (rs.length + 1) cap9))).keptB MZ1 (grown_set _ (w.heap.size + 1) 1 (.slice sl2 ps.length cap2)))
                  have BZ := Lib.hid (((bT BT2.out B11.out).setCell (p := ⟨w.heap.size + 1, 0, none⟩) (by show w.heap.size ≤ w.heap.size + 1; omega) (.slice (some ⟨g9, 0, none⟩) (rs.length + 1) cap9)).setCell (p := ⟨w.heap.size + 1, 1, none⟩) (by show w.heap.size ≤ w.heap.size + 1; omega) (.slice sl2 ps.length cap2))
                  generalize (w11.setCell ⟨w.heap.size + 1, 0, none⟩ (.slice (some ⟨g9, 0, none⟩) (rs.length + 1) cap9)).setCell ⟨w.heap.size + 1, 1, none⟩ (.slice sl2 ps.length cap2) = w14 at *
                  have r0 : w14.cell? ⟨w.heap.size + 1, 0, none⟩ = some (.slice (some ⟨g9, 0, none⟩) (rs.length + 1) cap9) := by rw [(cellsAt MZ2).1]; rfl
                  have r1 : w14.cell? ⟨w.heap.size + 1, 1, none⟩ = some (.slice sl2 ps.length cap2) := by rw [(cellsAt MZ2).1]; rfl
                  go_wp2
                  exact bodyPost_ret (v := .tuple #[.agg #[.slice (some ⟨g9, 0, none⟩) (rs.length + 1) cap9, .slice sl2 ps.length cap2], .bool false]) (by simp [results, Tryd.results10, go_sem, r0, r1]) rfl (by rw [HMs.out]; exact LinePost.of (ok := false) (rs := (rs ++ [(a, b, .slice (some ⟨g7, 2, none⟩) ds.length (c7 - 2), ds)])) (ps := ps) ⟨_, _, rfl, CZ.out, BZ.out.mono hB, keep_below BZ.out⟩ (fun hy => by cases hy) (fun _ => HNot.out (fun h2 => hxe (HX.out.2 h2.1))))
      · go_simp
        go_wp2
        refine hK.out _ _ ?_ (fun hHeld => ?_)
        · exact KS.out _ (BD.out.alloc BD.out.size _)
        clear hK K hHeld
        have BX10 := Lib.hid (BD.out.alloc BD.out.size (.cells #[.int .i64 a, .int .i64 b, .slice (some ⟨g7, 2, none⟩) ds.length (c7 - 2)] 43))
        have SC10 := Lib.hid (cell_three_new wd (.int .i64 a) (.int .i64 b) (.slice (some ⟨g7, 2, none⟩) ds.length (c7 - 2)) 43)
        have hl10 : wd.heap.size < (wd.alloc (.cells #[.int .i64 a, .int .i64 b, .slice (some ⟨g7, 2, none⟩) ds.length (c7 - 2)] 43)).heap.size := by simp
        have hm10 := BD.out.size
        generalize wd.alloc (.cells #[.int .i64 a, .int .i64 b, .slice (some ⟨g7, 2, none⟩) ds.length (c7 - 2)] 43) = w10_ at *
        generalize wd.heap.size = bk10 at *
        have hs10 := hl10
        refine wpAnyH_ready (rs := [0]) (by kernel_rfl) (by simp) ?_
        refine (AllReadyH.cons rfl (fun K hK => ?_) AllReadyH.nil)
        · go_simp
          go_wp2
          refine hK.out _ _ ?_ (fun hHeld => ?_)
          · exact KS.out _ (BX10.out.alloc BX10.out.size _)
          clear hK K hHeld
          have BX11 := Lib.hid (BX10.out.alloc BX10.out.size (.cells #[] 43))
          have OX11 := Lib.hid (own_mono (own_lit0 w10_ 43 3) BX10.out.size)
          have SC11 := Lib.hid (sc_below SC10.out hs10 ((bA0 w10_ (.cells #[] 43)).block bk10 hs10))
          have hl11 : w10_.heap.size < (w10_.alloc (.cells #[] 43)).heap.size := by simp
          have hm11 := BX10.out.size
          have hs11 := Nat.lt_trans hs10 hl11
          generalize w10_.alloc (.cells #[] 43) = w11_ at *
          generalize w10_.heap.size = bk11 at *
          have hb11 := hl11
          refine wpAnyH_ready (rs := [3]) (by kernel_rfl) (by simp) ?_
          refine (AllReadyH.cons rfl (fun K hK => ?_) AllReadyH.nil)
          · refine step_append_own rfl (.tmp 64) (.tmp 66) 22 43 rfl iS (.agg #[.int .i64 0, .int .i64 0, .slice none 0 0]) 3 40 Tryd.underlying22 hiS hzS0 hzS1 hzS2 rfl (by decide) (by decide) W1.heap.size bk11 (by simp [Act.eval, Act.put]) OX11.out C (.slice sl1 rs.length cap1) rs.length (stC rs) (by simp [Act.eval, Act.put]) ((OT1.out.below (BX11.out)).r1) (stC_one rs (OT1.out.below (BX11.out)).dom) (by omega) BX11.out.size ?_
            intro x12_ y12_ w12_ on12 gn12
            have BX12 := Lib.hid (BX11.out.grown gn12 BX11.out.size (fun k hk => by cases hk; exact (World.ownsRow.lt OX11.out bk11 rfl).1))
            refine hK.out _ _ ?_ (fun hHeld => ?_)
            · exact KS.out _ BX12.out
            clear hK K hHeld
            have OX12 := Lib.hid on12
            have hne12 : bk10 ≠ bk11 := by omega
            have SC12 := Lib.hid (sc_below SC11.out hs11 (gn12.block bk10 hs11 (fun e => hne12 (Option.some.inj e))))
            have hs12 := Nat.lt_of_lt_of_le hs11 gn12.size
            clear on12 gn12
            refine wpAnyH_ready (rs := [6]) (by kernel_rfl) (by simp) ?_
            refine (AllReadyH.cons rfl (fun K hK => ?_) AllReadyH.nil)
            · refine step_append_lies _ rfl (.tmp 67) (.tmp 69) 22 rfl W1.heap.size 43 iS _ 3 40 Tryd.underlying22 hiS hzS0 hzS1 hzS2 rfl (by decide) (.slice x12_ rs.length y12_) rs.length (stC rs) (by simp [Act.eval, Act.put]) OX12.out ⟨bk10, 0, none⟩ 1 1 [.int .i64 a, .int .i64 b, .slice (some ⟨g7, 2, none⟩) ds.length (c7 - 2)] (by simp [Act.eval, Act.put]) rfl SC12.out (by simp [Value.oneCell']) (by decide) (by unfold maxLen; omega) (by omega) BX12.out.size _ rfl ?_
              intro g9 cap9 w13_ on13 gn13 hg13 hlt13
              have BX13 := Lib.hid (BX12.out.grown gn13 BX12.out.size (fun k hk => (World.ownsRow.lt OX12.out k hk).1))
              refine hK.out _ _ ?_ (fun hHeld => ?_)
              · exact KS.out _ BX13.out
              clear hK K hHeld
              have OX13 := Lib.hid on13
              clear on13 gn13 hg13 hlt13
              try simp only [Act.put, List.setIfInBounds_toArray, List.set_cons_zero, List.set_cons_succ, List.getElem_toArray, List.getElem_cons_succ, List.getElem_cons_zero]
              have hHeld := KS.out _ BX13.out
              refine wpAnyH_take (i := 7) (oi := _) (v := ?_) rfl (by kernel_rfl) (by kernel_rfl) (by kernel_rfl) (fun _ _ _ h => h) (Or.inl ⟨by rfl, ?_⟩) (by assumption) ?_
              rotate_left
              · first | (intro w hSw; (try dsimp only at hSw); go_simp; done) | (intro w hSw; (try dsimp only at hSw); go_simp; with_reducible rfl)
              try simp only [Act.put, List.setIfInBounds_toArray, List.set_cons_zero, List.set_cons_succ, List.getElem_toArray, List.getElem_cons_succ, List.getElem_cons_zero]
              clear hHeld
              refine wpAnyH_ready (rs := [8]) (by kernel_rfl) (by simp) ?_
              refine (AllReadyH.cons rfl (fun K hK => ?_) AllReadyH.nil)
              · have cO14 := cellsAt ((BX13.out.block wr.heap.size hobl).trans MO1.out)
                go_simp
                go_wp2
                refine hK.out _ _ ?_ (fun hHeld => ?_)
                · exact ⟨(World.cell?_of_block (Below.heap_setCell _ _ _ _ (by show w.heap.size ≠ wr.heap.size; omega))).trans (KS.out _ BX13.out).1, (World.cell?_of_block (Below.heap_setCell _ _ _ _ (by show wr.heap.size + 1 ≠ wr.heap.size; omega))).trans (KS.out _ BX13.out).2.1, (World.cell?_of_block (Below.heap_setCell _ _ _ _ (by show wr.heap.size + 1 ≠ wr.heap.size; omega))).trans (KS.out _ BX13.out).2.2.1, (World.cell?_of_block (Below.heap_setCell _ _ _ _ (by show wr.heap.size + 1 ≠ wr.heap.size; omega))).trans (KS.out _ BX13.out).2.2.2⟩
                clear hK K hHeld cO14
                refine wpAnyH_done (by kernel_rfl) ?_ _
                have MO2 := Lib.hid (heap_setCell_same w13_ wr.heap.size 0 _ 25 (.slice (some ⟨g9, 0, none⟩) (rs.length + 1) cap9) ((BX13.out.block wr.heap.size hobl).trans MO1.out))
                have MR2 := Lib.hid ((Below.heap_setCell w13_ ⟨wr.heap.size, 0, none⟩ (.slice (some ⟨g9, 0, none⟩) (rs.length + 1) cap9) (w.heap.size + 1) (by show w.heap.size + 1 ≠ wr.heap.size; omega)).trans ((BX13.out.block (w.heap.size + 1) hn1l).trans MR1.out))
                have MS2 := Lib.hid ((Below.heap_setCell w13_ ⟨wr.heap.size, 0, none⟩ (.slice (some ⟨g9, 0, none⟩) (rs.length + 1) cap9) (wr.heap.size + 1) (by show wr.heap.size + 1 ≠ wr.heap.size; omega)).trans ((BX13.out.block (wr.heap.size + 1) hsbl).trans MS1.out))
                have MOb := Lib.hid ((BX13.out.block wr.heap.size hobl).trans MO1.out)
                have CO : Hid (OwT (w13_.setCell ⟨wr.heap.size, 0, none⟩ (.slice (some ⟨g9, 0, none⟩) (rs.length + 1) cap9)) C (.slice (some ⟨g9, 0, none⟩) (rs.length + 1) cap9) (.slice sl2 ps.length cap2) (rs ++ [(a, b, .slice (some ⟨g7, 2, none⟩) ds.length (c7 - 2), ds)]) ps) := by
                  have oo := OT1.out.below BX13.out
                  have gs := grown_set w13_ wr.heap.size 0 (.slice (some ⟨g9, 0, none⟩) (rs.length + 1) cap9)
                  refine ⟨?_, own_keptB oo.r2 MOb.out (by decide) gs, fun r hr => ?_, ?_⟩
                  · have := own_keptB (own_mono OX13.out hC1) MOb.out (by decide) gs
                    rw [List.length_append, stC_add]
                    exact this
                  · rcases List.mem_append.1 hr with hr | hr
                    · exact (oo.dom r hr).keptB MOb.out (by decide) gs
                    · rw [List.mem_singleton.1 hr]
                      exact (T1.out.below BX13.out).keptB MOb.out (by decide) gs
                  · refine List.pairwise_append.2 ⟨oo.diff, List.pairwise_singleton _ _, fun s' hs' t ht => ?_⟩
                    rw [List.mem_singleton.1 ht]
                    exact hFr s' hs'
                have BT2 := Lib.hid ((bT BN1.out BX13.out).setCell (p := ⟨wr.heap.size, 0, none⟩) (by show w.heap.size ≤ wr.heap.size; omega) (.slice (some ⟨g9, 0, none⟩) (rs.length + 1) cap9))
                have IZ := Lib.hid ((HZ1.out.below BX13.out))
                have hn1 : w.heap.size + 1 < (w13_.setCell ⟨wr.heap.size, 0, none⟩ (.slice (some ⟨g9, 0, none⟩) (rs.length + 1) cap9)).heap.size := (Array.getElem?_eq_some_iff.1 MR2.out).1
                have hl0 : wr.heap.size < (w13_.setCell ⟨wr.heap.size, 0, none⟩ (.slice (some ⟨g9, 0, none⟩) (rs.length + 1) cap9)).heap.size := (Array.getElem?_eq_some_iff.1 MO2.out).1
                have hl1 : wr.heap.size + 1 < (w13_.setCell ⟨wr.heap.size, 0, none⟩ (.slice (some ⟨g9, 0, none⟩) (rs.length + 1) cap9)).heap.size := (Array.getElem?_eq_some_iff.1 MS2.out).1
                have TL := Lib.hid ((CO.out.dom _ (List.mem_append_right _ (List.mem_singleton.2 rfl))).dm)
                generalize w13_.setCell ⟨wr.heap.size, 0, none⟩ (.slice (some ⟨g9, 0, none⟩) (rs.length + 1) cap9) = W2 at *
                have KZ : Hid (∀ W, Below W2.heap.size W2 W → W.cell? ⟨wr.heap.size, 0, none⟩ = some (.slice (some ⟨g9, 0, none⟩) (rs.length + 1) cap9) ∧ W.cell? ⟨wr.heap.size, 1, none⟩ = some (.slice sl2 ps.length cap2) ∧ W.cell? ⟨wr.heap.size + 1, 0, none⟩ = some (.int .i64 a) ∧ W.cell? ⟨wr.heap.size + 1, 1, none⟩ = some (.int .i64 b) ∧ W.cell? ⟨wr.heap.size + 1, 2, none⟩ = some (.slice (some ⟨g7, 2, none⟩) ds.length (c7 - 2))) := fun W hW => ⟨(hW.cell hl0).trans (by rw [(cellsAt MO2.out).1]; rfl), (hW.cell hl0).trans (by rw [(cellsAt MO2.out).1]; rfl), (hW.cell hl1).trans (by rw [(cellsAt MS2.out).1]; rfl), (hW.cell hl1).trans (by rw [(cellsAt MS2.out).1]; rfl), (hW.cell hl1).trans (by rw [(cellsAt MS2.out).1]; rfl)⟩
                have TC : Hid (∀ W, Below W2.heap.size W2 W → Calls Tryd.prog 18 #[.agg #[.slice (some ⟨g9, 0, none⟩) (rs.length + 1) cap9, .slice sl2 ps.length cap2]] W fun e w' => e = .returned (.bool (B (TabR (rs ++ [(a, b, .slice (some ⟨g7, 2, none⟩) ds.length (c7 - 2), ds)]) ps))) ∧ Below W.heap.size W w') := fun W hW => by
                  have hC := CO.out.below hW
                  obtain ⟨s1, k1, ev, hst⟩ := own_st hC
                  obtain ⟨s2, k2, ev2, hpr⟩ := own_pr hC
                  have := str_any s1 k1 s2 k2 _ _ W hst hpr
                  rw [ev, ev2]
                  exact this
                have TS : Hid (∀ W, Below W2.heap.size W2 W → Calls Tryd.prog 17 #[.agg #[.int .i64 a, .int .i64 b, .slice (some ⟨g7, 2, none⟩) ds.length (c7 - 2)]] W fun e w' => e = .returned (.string ⟨(statB a b ds).toArray⟩) ∧ Below W.heap.size W w') := fun W hW => by
                  obtain ⟨sx, cx, ex, ix, _⟩ := TL.out
                  have ex' : .slice (some ⟨g7, 2, none⟩) ds.length (c7 - 2) = Value.slice sx ds.length cx := ex
                  have := stt_any a b sx cx ds W hab.out.1 hab.out.2.1 (by omega) hab.out.2.2 (ix.below hW)
                  rw [ex']
                  exact this
                have HX : Hid ((((⟨(statB a b ds).toArray⟩ : ByteArray).toList == s.toList) = true) ↔ staW ++ numsT z = s.data.toList) := by
                  show _ ↔ _
                  rw [beq_iff_eq, Go.ByteArray.toList_eq, Go.ByteArray.toList_eq, HZZ.out, ← stat_words]
                clear IZ
                generalize hXB : (⟨(statB a b ds).toArray⟩ : ByteArray) = XB at *
                clear hXB
                go_wp2_with fail
                by_cases hxe : (XB.toList == s.toList) = true
                · refine wp_region_held_drew (S := fun W => W.cell? ⟨wr.heap.size, 0, none⟩ = some (.slice (some ⟨g9, 0, none⟩) (rs.length + 1) cap9) ∧ W.cell? ⟨wr.heap.size, 1, none⟩ = some (.slice sl2 ps.length cap2) ∧ W.cell? ⟨wr.heap.size + 1, 0, none⟩ = some (.int .i64 a) ∧ W.cell? ⟨wr.heap.size + 1, 1, none⟩ = some (.int .i64 b) ∧ W.cell? ⟨wr.heap.size + 1, 2, none⟩ = some (.slice (some ⟨g7, 2, none⟩) ds.length (c7 - 2))) (by kernel_rfl) ?_ (fun hHeld => ?_)
                  · exact KZ.out _ ((Below.refl _ _).drew)
                  refine wpAnyH_take (i := 0) (oi := _) (v := ?_) rfl (by kernel_rfl) (by kernel_rfl) (by kernel_rfl) (fun _ _ _ h => h) (Or.inl ⟨by rfl, ?_⟩) (by assumption) ?_
                  rotate_left
                  · first | (intro w hSw; (try dsimp only at hSw); go_simp; done) | (intro w hSw; (try dsimp only at hSw); go_simp; with_reducible rfl)
                  try simp only [Act.put, List.setIfInBounds_toArray, List.set_cons_zero, List.set_cons_succ, List.getElem_toArray, List.getElem_cons_zero]
                  refine wpAnyH_take (i := 1) (oi := _) (v := ?_) rfl (by kernel_rfl) (by kernel_rfl) (by kernel_rfl) (fun _ _ _ h => h) (Or.inl ⟨by rfl, ?_⟩) (by assumption) ?_
                  rotate_left
                  · first | (intro w hSw; (try dsimp only at hSw); go_simp; done) | (intro w hSw; (try dsimp only at hSw); go_simp; with_reducible rfl)
                  try simp only [Act.put, List.setIfInBounds_toArray, List.set_cons_zero, List.set_cons_succ, List.getElem_toArray, List.getElem_cons_succ, List.getElem_cons_zero]
                  refine wpAnyH_take (i := 3) (oi := _) (v := ?_) rfl (by kernel_rfl) (by kernel_rfl) (by kernel_rfl) (fun _ _ _ h => h) (Or.inl ⟨by rfl, ?_⟩) (by assumption) ?_
                  rotate_left
                  · first | (intro w hSw; (try dsimp only at hSw); go_simp; done) | (intro w hSw; (try dsimp only at hSw); go_simp; with_reducible rfl)
                  try simp only [Act.put, List.setIfInBounds_toArray, List.set_cons_zero, List.set_cons_succ, List.getElem_toArray, List.getElem_cons_succ, List.getElem_cons_zero]
                  refine wpAnyH_ready (rs := [2]) (by kernel_rfl) (by simp) ?_
                  refine AllReadyH.cons rfl (fun K hK => ?_) AllReadyH.nil
                  go_simp
                  go_wp2_with (go_at_call 17; refine (TS.out _ ((Below.refl _ _).drew)).mono ?_; rintro e w11 ⟨rfl, b11⟩; have B11 := Lib.hid (((Below.refl W2.heap.size W2).drew).trans b11); clear b11)
                  refine hK.out _ _ ?_ (fun hHeld => ?_)
                  · exact KZ.out _ B11.out
                  clear hK K
                  refine wpAnyH_take (i := 4) (oi := _) (v := ?_) rfl (by kernel_rfl) (by kernel_rfl) (by kernel_rfl) (fun _ _ _ h => h) (Or.inl ⟨by rfl, ?_⟩) (by assumption) ?_
                  rotate_left
                  · first | (intro w hSw; (try dsimp only at hSw); go_simp; done) | (intro w hSw; (try dsimp only at hSw); go_simp; with_reducible rfl)
                  try simp only [Act.put, List.setIfInBounds_toArray, List.set_cons_zero, List.set_cons_succ, List.getElem_toArray, List.getElem_cons_succ, List.getElem_cons_zero]
                  refine wpAnyH_take (i := 5) (oi := _) (v := ?_) rfl (by kernel_rfl) (by kernel_rfl) (by kernel_rfl) (fun _ _ _ h => h) (Or.inl ⟨by rfl, ?_⟩) (by assumption) ?_
                  rotate_left
                  · first | (intro w hSw; (try dsimp only at hSw); go_simp; done) | (intro w hSw; (try dsimp only at hSw); go_simp; with_reducible rfl)
                  try simp only [Act.put, List.setIfInBounds_toArray, List.set_cons_zero, List.set_cons_succ, List.getElem_toArray, List.getElem_cons_succ, List.getElem_cons_zero]
                  refine wpAnyH_take (i := 6) (oi := _) (v := ?_) rfl (by kernel_rfl) (by kernel_rfl) (by kernel_rfl) (fun _ _ _ h => h) (Or.inl ⟨by rfl, ?_⟩) (by assumption) ?_
                  rotate_left
                  · first | (intro w hSw; (try dsimp only at hSw); go_simp; done) | (intro w hSw; (try dsimp only at hSw); go_simp; with_reducible rfl)
                  try simp only [Act.put, List.setIfInBounds_toArray, List.set_cons_zero, List.set_cons_succ, List.getElem_toArray, List.getElem_cons_succ, List.getElem_cons_zero]
                  refine wpAnyH_ready (rs := [7]) (by kernel_rfl) (by simp) ?_
                  refine AllReadyH.cons rfl (fun K hK => ?_) AllReadyH.nil
                  go_simp
                  go_wp2_with (go_at_call 18; refine (TC.out _ B11.out).mono ?_; rintro e w12 ⟨rfl, b12⟩; have B12 := Lib.hid (bT B11.out b12); have c12 := cellsAt ((B12.out.block (w.heap.size + 1) hn1).trans MR2.out); clear b12)
                  refine hK.out _ _ ?_ (fun hHeld => ?_)
                  · exact KZ.out _ B12.out
                  clear hK K
                  refine wpAnyH_take (i := 8) (oi := _) (v := ?_) rfl (by kernel_rfl) (by kernel_rfl) (by kernel_rfl) (fun _ _ _ h => h) (Or.inl ⟨by rfl, ?_⟩) (by assumption) ?_
                  rotate_left
                  · first | (intro w hSw; (try dsimp only at hSw); go_simp; done) | (intro w hSw; (try dsimp only at hSw); go_simp; with_reducible rfl)
                  try simp only [Act.put, List.setIfInBounds_toArray, List.set_cons_zero, List.set_cons_succ, List.getElem_toArray, List.getElem_cons_succ, List.getElem_cons_zero]
                  refine wpAnyH_ready (rs := [9]) (by kernel_rfl) (by simp) ?_
                  refine AllReadyH.cons rfl (fun K hK => ?_) AllReadyH.nil
                  go_simp
                  go_wp2
                  refine hK.out _ _ ?_ (fun hHeld => ?_)
                  · exact (fun hX => ⟨(set2_cell _ _ _ _ _ _ (by omega)).trans hX.1, (set2_cell _ _ _ _ _ _ (by omega)).trans hX.2.1, (set2_cell _ _ _ _ _ _ (by omega)).trans hX.2.2.1, (set2_cell _ _ _ _ _ _ (by omega)).trans hX.2.2.2.1, (set2_cell _ _ _ _ _ _ (by omega)).trans hX.2.2.2.2⟩) (KZ.out _ B12.out)
                  clear hK K
                  refine wpAnyH_take (i := 10) (oi := _) (v := ?_) rfl (by kernel_rfl) (by kernel_rfl) (by kernel_rfl) (fun _ _ _ h => h) (Or.inl ⟨by rfl, ?_⟩) (by assumption) ?_
                  rotate_left
                  · first | (intro w hSw; (try dsimp only at hSw); go_simp; done) | (intro w hSw; (try dsimp only at hSw); go_simp; with_reducible rfl)
                  try simp only [Act.put, List.setIfInBounds_toArray, List.set_cons_zero, List.set_cons_succ, List.getElem_toArray, List.getElem_cons_succ, List.getElem_cons_zero]
                  refine wpAnyH_done (by kernel_rfl) ?_ _
                  have MZ0 := (B12.out.block (w.heap.size + 1) hn1).trans MR2.out
                  have MZ1 := heap_setCell_same w12 (w.heap.size + 1) 0 _ 25 (.slice (some ⟨g9, 0, none⟩) (rs.length + 1) cap9) MZ0
                  have MZ2 := heap_setCell_same _ (w.heap.size + 1) 1 _ 25 (.slice sl2 ps.length cap2) MZ1
                  have CZ := Lib.hid (((CO.out.below B12.out).keptB MZ0 (grown_set w12 (w.heap.size + 1) 0 (.slice (some ⟨g9, 0, none⟩) (rs.length + 1) cap9))).keptB MZ1 (grown_set _ (w.heap.size + 1) 1 (.slice sl2 ps.length cap2)))
                  have BZ := Lib.hid (((bT BT2.out B12.out).setCell (p := ⟨w.heap.size + 1, 0, none⟩) (by show w.heap.size ≤ w.heap.size + 1; omega) (.slice (some ⟨g9, 0, none⟩) (rs.length + 1) cap9)).setCell (p := ⟨w.heap.size + 1, 1, none⟩) (by show w.heap.size ≤ w.heap.size + 1; omega) (.slice sl2 ps.length cap2))
                  generalize (w12.setCell ⟨w.heap.size + 1, 0, none⟩ (.slice (some ⟨g9, 0, none⟩) (rs.length + 1) cap9)).setCell ⟨w.heap.size + 1, 1, none⟩ (.slice sl2 ps.length cap2) = w14 at *
                  have r0 : w14.cell? ⟨w.heap.size + 1, 0, none⟩ = some (.slice (some ⟨g9, 0, none⟩) (rs.length + 1) cap9) := by rw [(cellsAt MZ2).1]; rfl
                  have r1 : w14.cell? ⟨w.heap.size + 1, 1, none⟩ = some (.slice sl2 ps.length cap2) := by rw [(cellsAt MZ2).1]; rfl
                  go_wp2
                  exact bodyPost_ret (v := .tuple #[.agg #[.slice (some ⟨g9, 0, none⟩) (rs.length + 1) cap9, .slice sl2 ps.length cap2], .bool (B (TabR (rs ++ [(a, b, .slice (some ⟨g7, 2, none⟩) ds.length (c7 - 2), ds)]) ps))]) (by simp [results, Tryd.results10, go_sem, r0, r1]) rfl (by rw [HMs.out]; exact LinePost.of (ok := B (TabR (rs ++ [(a, b, .slice (some ⟨g7, 2, none⟩) ds.length (c7 - 2), ds)]) ps)) (rs := (rs ++ [(a, b, .slice (some ⟨g7, 2, none⟩) ds.length (c7 - 2), ds)])) (ps := ps) ⟨_, _, rfl, CZ.out, BZ.out.mono hB, keep_below BZ.out⟩ (fun hy => HYes.out (HX.out.1 hxe) hy) (fun hn => HNot.out (fun h2 => by rw [B_yes h2.2] at hn; cases hn)))

                · have hxf : (XB.toList == s.toList) = false := by simpa using hxe
                  refine wp_region_held_drew (S := fun W => W.cell? ⟨wr.heap.size, 0, none⟩ = some (.slice (some ⟨g9, 0, none⟩) (rs.length + 1) cap9) ∧ W.cell? ⟨wr.heap.size, 1, none⟩ = some (.slice sl2 ps.length cap2) ∧ W.cell? ⟨wr.heap.size + 1, 0, none⟩ = some (.int .i64 a) ∧ W.cell? ⟨wr.heap.size + 1, 1, none⟩ = some (.int .i64 b) ∧ W.cell? ⟨wr.heap.size + 1, 2, none⟩ = some (.slice (some ⟨g7, 2, none⟩) ds.length (c7 - 2))) (by kernel_rfl) ?_ (fun hHeld => ?_)
                  · exact KZ.out _ ((Below.refl _ _).drew)
                  refine wpAnyH_take (i := 0) (oi := _) (v := ?_) rfl (by kernel_rfl) (by kernel_rfl) (by kernel_rfl) (fun _ _ _ h => h) (Or.inl ⟨by rfl, ?_⟩) (by assumption) ?_
                  rotate_left
                  · first | (intro w hSw; (try dsimp only at hSw); go_simp; done) | (intro w hSw; (try dsimp only at hSw); go_simp; with_reducible rfl)
                  try simp only [Act.put, List.setIfInBounds_toArray, List.set_cons_zero, List.set_cons_succ, List.getElem_toArray, List.getElem_cons_zero]
                  refine wpAnyH_take (i := 1) (oi := _) (v := ?_) rfl (by kernel_rfl) (by kernel_rfl) (by kernel_rfl) (fun _ _ _ h => h) (Or.inl ⟨by rfl, ?_⟩) (by assumption) ?_
                  rotate_left
                  · first | (intro w hSw; (try dsimp only at hSw); go_simp; done) | (intro w hSw; (try dsimp only at hSw); go_simp; with_reducible rfl)
                  try simp only [Act.put, List.setIfInBounds_toArray, List.set_cons_zero, List.set_cons_succ, List.getElem_toArray, List.getElem_cons_succ, List.getElem_cons_zero]
                  refine wpAnyH_take (i := 3) (oi := _) (v := ?_) rfl (by kernel_rfl) (by kernel_rfl) (by kernel_rfl) (fun _ _ _ h => h) (Or.inl ⟨by rfl, ?_⟩) (by assumption) ?_
                  rotate_left
                  · first | (intro w hSw; (try dsimp only at hSw); go_simp; done) | (intro w hSw; (try dsimp only at hSw); go_simp; with_reducible rfl)
                  try simp only [Act.put, List.setIfInBounds_toArray, List.set_cons_zero, List.set_cons_succ, List.getElem_toArray, List.getElem_cons_succ, List.getElem_cons_zero]
                  refine wpAnyH_ready (rs := [2]) (by kernel_rfl) (by simp) ?_
                  refine AllReadyH.cons rfl (fun K hK => ?_) AllReadyH.nil
                  go_simp
                  go_wp2_with (go_at_call 17; refine (TS.out _ ((Below.refl _ _).drew)).mono ?_; rintro e w11 ⟨rfl, b11⟩; have B11 := Lib.hid (((Below.refl W2.heap.size W2).drew).trans b11); clear b11; have c11 := cellsAt ((B11.out.block (w.heap.size + 1) hn1).trans MR2.out))
                  refine hK.out _ _ ?_ (fun hHeld => ?_)
                  · exact KZ.out _ B11.out
                  clear hK K
                  refine wpAnyH_take (i := 4) (oi := _) (v := ?_) rfl (by kernel_rfl) (by kernel_rfl) (by kernel_rfl) (fun _ _ _ h => h) (Or.inl ⟨by rfl, ?_⟩) (by assumption) ?_
                  rotate_left
                  · first | (intro w hSw; (try dsimp only at hSw); go_simp; done) | (intro w hSw; (try dsimp only at hSw); go_simp; with_reducible rfl)
                  try simp only [Act.put, List.setIfInBounds_toArray, List.set_cons_zero, List.set_cons_succ, List.getElem_toArray, List.getElem_cons_succ, List.getElem_cons_zero]
                  refine wpAnyH_take (i := 5) (oi := _) (v := ?_) rfl (by kernel_rfl) (by kernel_rfl) (by kernel_rfl) (fun _ _ _ h => h) (Or.inl ⟨by rfl, ?_⟩) (by assumption) ?_
                  rotate_left
                  · first | (intro w hSw; (try dsimp only at hSw); go_simp; done) | (intro w hSw; (try dsimp only at hSw); go_simp; with_reducible rfl)
                  try simp only [Act.put, List.setIfInBounds_toArray, List.set_cons_zero, List.set_cons_succ, List.getElem_toArray, List.getElem_cons_succ, List.getElem_cons_zero]
                  refine wpAnyH_take (i := 6) (oi := _) (v := undef) rfl (by kernel_rfl) (by kernel_rfl) (by kernel_rfl) (fun _ _ _ h => h) (Or.inr ⟨by rfl, rfl⟩) (by assumption) ?_
                  try simp only [Act.put, List.setIfInBounds_toArray, List.set_cons_zero, List.set_cons_succ, List.getElem_toArray, List.getElem_cons_succ, List.getElem_cons_zero]
                  refine wpAnyH_take (i := 7) (oi := _) (v := undef) rfl (by kernel_rfl) (by kernel_rfl) (by kernel_rfl) (fun _ _ _ h => h) (Or.inr ⟨by rfl, rfl⟩) (by assumption) ?_
                  try simp only [Act.put, List.setIfInBounds_toArray, List.set_cons_zero, List.set_cons_succ, List.getElem_toArray, List.getElem_cons_succ, List.getElem_cons_zero]
                  refine wpAnyH_take (i := 8) (oi := _) (v := ?_) rfl (by kernel_rfl) (by kernel_rfl) (by kernel_rfl) (fun _ _ _ h => h) (Or.inl ⟨by rfl, ?_⟩) (by assumption) ?_
                  rotate_left
                  · first | (intro w hSw; (try dsimp only at hSw); go_simp; done) | (intro w hSw; (try dsimp only at hSw); go_simp; with_reducible rfl)
                  try simp only [Act.put, List.setIfInBounds_toArray, List.set_cons_zero, List.set_cons_succ, List.getElem_toArray, List.getElem_cons_succ, List.getElem_cons_zero]
                  refine wpAnyH_ready (rs := [9]) (by kernel_rfl) (by simp) ?_
                  refine AllReadyH.cons rfl (fun K hK => ?_) AllReadyH.nil
                  go_simp
                  go_wp2
                  refine hK.out _ _ ?_ (fun hHeld => ?_)
                  · exact (fun hX => ⟨(set2_cell _ _ _ _ _ _ (by omega)).trans hX.1, (set2_cell _ _ _ _ _ _ (by omega)).trans hX.2.1, (set2_cell _ _ _ _ _ _ (by omega)).trans hX.2.2.1, (set2_cell _ _ _ _ _ _ (by omega)).trans hX.2.2.2.1, (set2_cell _ _ _ _ _ _ (by omega)).trans hX.2.2.2.2⟩) (KZ.out _ B11.out)
                  clear hK K
                  refine wpAnyH_take (i := 10) (oi := _) (v := ?_) rfl (by kernel_rfl) (by kernel_rfl) (by kernel_rfl) (fun _ _ _ h => h) (Or.inl ⟨by rfl, ?_⟩) (by assumption) ?_
                  rotate_left
                  · first | (intro w hSw; (try dsimp only at hSw); go_simp; done) | (intro w hSw; (try dsimp only at hSw); go_simp; with_reducible rfl)
                  try simp only [Act.put, List.setIfInBounds_toArray, List.set_cons_zero, List.set_cons_succ, List.getElem_toArray, List.getElem_cons_succ, List.getElem_cons_zero]
                  refine wpAnyH_done (by kernel_rfl) ?_ _
                  have MZ0 := (B11.out.block (w.heap.size + 1) hn1).trans MR2.out
                  have MZ1 := heap_setCell_same w11 (w.heap.size + 1) 0 _ 25 (.slice (some ⟨g9, 0, none⟩) (rs.length + 1) cap9) MZ0
                  have MZ2 := heap_setCell_same _ (w.heap.size + 1) 1 _ 25 (.slice sl2 ps.length cap2) MZ1
                  have CZ := Lib.hid (((CO.out.below B11.out).keptB MZ0 (grown_set w11 (w.heap.size + 1) 0 (.slice (some ⟨g9, 0, none⟩) (rs.length + 1) cap9))).keptB MZ1 (grown_set _ (w.heap.size + 1) 1 (.slice sl2 ps.length cap2)))
                  have BZ := Lib.hid (((bT BT2.out B11.out).setCell (p := ⟨w.heap.size + 1, 0, none⟩) (by show w.heap.size ≤ w.heap.size + 1; omega) (.slice (some ⟨g9, 0, none⟩) (rs.length + 1) cap9)).setCell (p := ⟨w.heap.size + 1, 1, none⟩) (by show w.heap.size ≤ w.heap.size + 1; omega) (.slice sl2 ps.length cap2))
                  generalize (w11.setCell ⟨w.heap.size + 1, 0, none⟩ (.slice (some ⟨g9, 0, none⟩) (rs.length + 1) cap9)).setCell ⟨w.heap.size + 1, 1, none⟩ (.slice sl2 ps.length cap2) = w14 at *
                  have r0 : w14.cell? ⟨w.heap.size + 1, 0, none⟩ = some (.slice (some ⟨g9, 0, none⟩) (rs.length + 1) cap9) := by rw [(cellsAt MZ2).1]; rfl
                  have r1 : w14.cell? ⟨w.heap.size + 1, 1, none⟩ = some (.slice sl2 ps.length cap2) := by rw [(cellsAt MZ2).1]; rfl
                  go_wp2
                  exact bodyPost_ret (v := .tuple #[.agg #[.slice (some ⟨g9, 0, none⟩) (rs.length + 1) cap9, .slice sl2 ps.length cap2], .bool false]) (by simp [results, Tryd.results10, go_sem, r0, r1]) rfl (by rw [HMs.out]; exact LinePost.of (ok := false) (rs := (rs ++ [(a, b, .slice (some ⟨g7, 2, none⟩) ds.length (c7 - 2), ds)])) (ps := ps) ⟨_, _, rfl, CZ.out, BZ.out.mono hB, keep_below BZ.out⟩ (fun hy => by cases hy) (fun _ => HNot.out (fun h2 => hxe (HX.out.2 h2.1))))

  clear hKT
  go_loopw [7, 8] (fun nv iv wr => ∃ (k : Nat), iv = .int .i64 ((k : Int) + 1) ∧ k ≤ 19 ∧ k ≤ ps'.length ∧ Hid (wr.ownsRow w1.heap.size 2 1 nv k (valsZ ((ps'.take k).map numV))) ∧ Hid (Below w1.heap.size w1 wr)) (fun _ iv _ => 20 - (intOf iv).toNat)
  case atStart => exact ⟨0, rfl, Nat.zero_le _, Nat.zero_le _, O2.out, B2.out⟩
  case round =>
    obtain ⟨k, rfl, hk19, hkp, O3, B3⟩ := hrel
    have hk0 : (0 : Int) ≤ (k : Int) := by omega
    have c0 := cellsAt ((B3.out.block w.heap.size (by omega)).trans M01.out)
    have c1 := cellsAt ((B3.out.block (w.heap.size + 1) (by omega)).trans M11.out)
    by_cases h1 : k < ps'.length
    · have h1' : (k : Int) + 1 < (ps'.length : Int) + 1 := by omega
      by_cases h2 : k < 19
      · have h2' : (k : Int) + 1 < 20 := by omega
        obtain ⟨x, hx⟩ : ∃ x, ps'[k]? = some x := ⟨_, List.getElem?_eq_getElem h1⟩
        have q1 := (B3.out.cell gl).trans (GC.out (k + 1) x (by rw [List.getElem?_cons_succ]; exact hx))
        unfold strV at q1
        have NM : Hid (Calls Tryd.prog 16 #[.string ⟨x.toArray⟩] wr fun e w' => e = .returned (.tuple #[.int .i64 (numV x), .bool (numK x)]) ∧ Below wr.heap.size wr w') := by
          have := num_any ⟨x.toArray⟩ (by have := hsmall.out x (List.mem_cons_of_mem _ (List.mem_of_getElem? hx)); simp [ByteArray.size]; omega) wr
          show Calls _ _ _ _ _
          simpa using this
        have HX := Lib.hid hx
        obtain ⟨sl7, m7, c7, e7⟩ := IsSl.own O3.out
        subst e7
        clear hx O2 B2 c0 c1
        go_wp2_with fail
        refine NM.out.mono ?_
        rintro e w4 ⟨rfl, b4⟩
        have O4 := Lib.hid (own_below O3.out b4)
        have B4 := Lib.hid (bT B3.out b4)
        clear b4 q1 NM O3 B3
        have hcn := Lib.hid (cell_one_new w4 (.int .i64 (numV x)) 2)
        go_wp2_with (at_builtin; refine wpList_append_lies _ rfl _ _ 39 rfl w1.heap.size 2 i0 (.int .i64 0) 1 8 Tryd.underlying39 hi0 hz0 hz1 hz2 rfl (by decide) (.slice sl7 m7 c7) k (valsZ ((ps'.take k).map numV)) rfl (O4.out.alloc _) ⟨w4.heap.size, 0, none⟩ 1 1 [.int .i64 (numV x)] rfl rfl (cell_one_new _ _ _) (by simp [Value.oneCell']) (by decide) (by unfold maxLen; omega) (by omega) (by have := B4.out.size; simp; omega) _ rfl ?_; intro g9 cap9 w9 own9 grow9 hg9 hlt9; have O9 := Lib.hid own9; have B9 := Lib.hid ((bA B4.out _).grown grow9 (by have := B4.out.size; simp; omega) (fun j hj => (World.ownsRow.lt O4.out j hj).1)); clear own9 grow9 hg9 hlt9)
        go_roundw
        case rel => exact ⟨k + 1, by go_num, by omega, by omega, (by show World.ownsRow _ _ _ _ _ _ _; rw [take_numV ps' k x HX.out]; exact O9.out), B9.out⟩
        case measure => simp [intOf]; omega
      · have h2' : ¬ (k : Int) + 1 < 20 := by omega
        have hkE : Hid ((ps'.take k).map numV = numsM ps' ∧ k = (numsM ps').length) := by
          have : k = 19 := by omega
          subst this
          refine ⟨rfl, ?_⟩
          simp [numsM]; omega
        clear O2 B2
        go_wp2_with fail
        exact TAIL _ _ _ _ _ _ _ _ _ _ _ _ _ _ _ _ _ _ _ _ _ _ _ _ _ _ _ _ hkE.out.1 (by rw [hkE.out.1, ← hkE.out.2]; have := O3.out; rw [hkE.out.1] at this; exact this) B3.out
    · have h1' : ¬ (k : Int) + 1 < (ps'.length : Int) + 1 := by omega
      have hkE : Hid ((ps'.take k).map numV = numsM ps' ∧ k = (numsM ps').length) := by
        have : k = ps'.length := by omega
        subst this
        refine ⟨?_, ?_⟩
        · unfold numsM; rw [List.take_length, List.take_of_length_le (by omega)]
        · simp [numsM]; omega
      clear O2 B2
      go_wp2_with fail
      exact TAIL _ _ _ _ _ _ _ _ _ _ _ _ _ _ _ _ _ _ _ _ _ _ _ _ _ _ _ _ hkE.out.1 (by rw [hkE.out.1, ← hkE.out.2]; have := O3.out; rw [hkE.out.1] at this; exact this) B3.out

end Go.Proofs.YtdndhhkpbcpalaaDoor
