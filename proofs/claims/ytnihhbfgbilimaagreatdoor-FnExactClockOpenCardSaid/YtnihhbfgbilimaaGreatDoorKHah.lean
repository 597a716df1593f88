import Derived.Test.YtnihhbfgbilimaaGreatDoorKHag
namespace Go.Proofs.YtnihhbfgbilimaaGreatDoor
open Go.RowKit
set_option linter.unusedVariables false
set_option maxRecDepth 100000 in
set_option maxHeartbeats 8000000 in
theorem ico_any (sl : Option Addr) (cap : Nat) (sl2 : Option Addr) (cap2 : Nat) (sl3 : Option Addr) (cap3 : Nat) (rs : List LSt) (ps : List LPr) (top : Int) (ids : List Int) (w : World) (hn : rs.length ≤ 1048576) (hl : ids.length ≤ maxLen) (hz : Sts w sl rs) (hp : Prs w sl2 ps) (hw : ∀ p ∈ ps, WfP p) (hi : Ints w sl3 ids) :
  Calls Tryz.prog 140 #[TV sl rs.length cap sl2 ps.length cap2, .int .i64 top, .slice sl3 ids.length cap3] w fun e w' => ∃ v cs, e = .returned (.agg #[.int .i64 (cnN rs ps top ids : Nat), v]) ∧ OwC w' w.heap.size v cs ∧ bareC cs = cnA rs ps top ids ∧ Below w.heap.size w w' := by
 obtain ⟨i4, hi4, hd0, hd1, hd2⟩ := info_parts info40
 have E1 : Hid (∀ W, Below w.heap.size w W → Calls Tryz.prog 65 #[TV sl rs.length cap sl2 ps.length cap2, .slice sl3 ids.length cap3] W fun e w' => e = .returned (.bool (B (IdsR rs ps ids))) ∧ Below W.heap.size W w') := fun W hW => iir_any sl cap sl2 cap2 sl3 cap3 rs ps ids W hn hl (hz.below hW) (hp.below hW) hw (hi.below hW)
 have HT := Lib.hid ((TabAtD.new w sl rs.length cap sl2 ps.length cap2).below (bA0 _ (.cells #[.int .i64 0, .slice none 0 0] 110)))
 have HR : Hid (BoxR ((w.alloc (.cells #[.slice sl rs.length cap, .slice sl2 ps.length cap2] 26)).alloc (.cells #[.int .i64 0, .slice none 0 0] 110)) (w.heap.size + 1)) := by
  have := new_at (w.alloc (.cells #[.slice sl rs.length cap, .slice sl2 ps.length cap2] 26)) (.cells #[.int .i64 0, .slice none 0 0] 110)
  rwa [show (w.alloc (.cells #[.slice sl rs.length cap, .slice sl2 ps.length cap2] 26)).heap.size = w.heap.size + 1 by simp] at this
 have B0 := Lib.hid (bA (bA0 w (.cells #[.slice sl rs.length cap, .slice sl2 ps.length cap2] 26)) (.cells #[.int .i64 0, .slice none 0 0] 110))
 have S0 : ((w.alloc (.cells #[.slice sl rs.length cap, .slice sl2 ps.length cap2] 26)).alloc (.cells #[.int .i64 0, .slice none 0 0] 110)).heap.size = w.heap.size + 2 := by simp
 by_cases hIR : IdsR rs ps ids
 ·have IR := Lib.hid hIR
  rw [B_yes hIR] at E1
  have h400 : ids.length ≤ 400 := hIR.1
  have E2 := Lib.hid (fun W (hW : Below w.heap.size w W) => ch_any sl cap sl2 cap2 sl3 cap3 rs ps top ids W h400 (hz.below hW) hIR.2.1 (hi.below hW))
  have HP := Lib.hid hp
  have HI := Lib.hid hi
  have HW := Lib.hid hw
  have CN := Lib.hid (show cnN rs ps top ids = (plF rs top ids).length by unfold cnN; rw [if_pos (B_yes hIR)])
  have CA := Lib.hid (show cnA rs ps top ids = cnfI ps ids (nbsF 0 (ids.map (chF rs top))) by unfold cnA; rw [if_pos (B_yes hIR)])
  have PL := plF_le top ids hIR.2.1
  rw [CN.out]
  clear hIR hz hp hi hw CN
  generalize rs.length = rn at *
  generalize hPn : ps.length = pn at *
  have HPN := Lib.hid hPn
  clear hPn
  generalize hNi : ids.length = ni at *
  have HNI := Lib.hid hNi
  clear hNi
  go_enter Tryz.func140, Tryz.ntmps140
  go_wp2_with fail
  generalize (w.alloc (.cells #[.slice sl rn cap, .slice sl2 pn cap2] 26)).alloc (.cells #[.int .i64 0, .slice none 0 0] 110) = w0 at *
  refine (E1.out _ B0.out).mono ?_
  rintro e w1 ⟨rfl, b1⟩
  have D1 := Lib.hid b1
  have XT1 := HT.out.below b1
  obtain ⟨t0, t1⟩ := XT1.cells
  have tl := XT1.lt
  clear b1 XT1
  go_wp2_with fail
  refine (E2.out _ (bT B0.out D1.out)).mono ?_
  rintro e w2 ⟨bc, rows, rfl, hm, RW, b2⟩
  have HM := Lib.hid hm
  have RW2 := Lib.hid RW
  have D2 := Lib.hid (bT D1.out b2)
  have RL : rows.length = ni := by have := congrArg List.length hm; rw [List.length_map, List.length_map, HNI.out] at this; exact this
  have FR := Lib.hid (flatR_map hm)
  have hFL : (flatR rows).length ≤ 1048576 := by rw [FR.out]; omega
  have E3 := Lib.hid (vo_any (some ⟨bc, 0, none⟩) ni rows w2 (by omega) hFL RW)
  rw [RL] at E3
  clear hm RW b2 t0 t1 tl E1 E2
  go_wp2_with fail
  refine E3.out.mono ?_
  rintro e w3 ⟨vv, vs, rfl, OV, hbv, b3⟩
  have D3 := Lib.hid (bT D2.out b3)
  have RW3 := Lib.hid (RW2.out.below b3)
  have OV3 := Lib.hid (OV.mono (show w0.heap.size ≤ w2.heap.size from D2.out.size))
  have HBV := Lib.hid hbv
  have VL : vs.length = ni := by have := congrArg List.length hbv; rw [numR_len, RL] at this; simpa [bareC] using this
  obtain ⟨vsl, vcap, rfl⟩ := OV.v
  have V96 : Hid (∀ r ∈ vs, VarB r.2 ∧ r.2.length ≤ 96) := fun r hr => by
   have hm : r.2 ∈ numR rows := by rw [← hbv]; exact List.mem_map.2 ⟨r, hr, rfl⟩
   refine ⟨fun z hz => ?_, numR_row rows 96 (ch_96 top IR.out.2.1 HM.out) _ hm⟩
   have := numR_mem rows _ hm z hz
   omega
  clear OV hbv b3 RW2 E3 D1 D2
  rw [VL]
  obtain ⟨CV, hCV⟩ : ∃ c, c = vcap := ⟨_, rfl⟩
  go_wp2
  go_loopw [9, 25] (fun v i wr => ∃ (k : Nat) (ds : List LCl), i = .int .i64 k ∧ k ≤ ni ∧ Hid (OwC wr w3.heap.size v ds) ∧ ds.length ≤ k * 10000 ∧ Hid (bareC ds = ((bareC vs).take k).flatMap twoF) ∧ Hid (Below w3.heap.size w3 wr)) (fun _ i _ => ni - (intOf i).toNat)
  case atStart => exact ⟨0, [], rfl, Nat.zero_le _, OwC.nil _ _, Nat.zero_le _, rfl, Below.refl _ _⟩
  case round =>
   obtain ⟨k, ds, rfl, hk, OD, hdl, BD, HD⟩ := hrel
   have hk0 : (0 : Int) ≤ (k : Int) := by omega
   by_cases g1 : k < ni
   ·have g1' : (k : Int) < (ni : Int) := by omega
    have hlt : k < vs.length := by rw [VL]; exact g1
    have OVr := OV3.out.below HD.out
    obtain ⟨sl9, cap9, e9, CL⟩ := OVr.cls
    obtain ⟨c, o, rfl, cl, hcs⟩ := CL.at hlt
    obtain ⟨rfl, rfl⟩ : vsl = some ⟨c, o, none⟩ ∧ vcap = cap9 := by cases e9; exact ⟨rfl, rfl⟩
    have hc := hcs k hlt
    have hro := OVr.each vs[k] (List.getElem_mem hlt)
    obtain ⟨s1, k1, v1, I1⟩ := own_ints hro
    rw [v1] at hc hro
    have hcap1 := own_cap hro
    obtain ⟨hVB, h96⟩ := V96.out vs[k] (List.getElem_mem hlt)
    have EN := Lib.hid (nt_any s1 k1 vs[k].2 wr (by omega) hcap1 hVB I1)
    have BS := Lib.hid (show ((bareC vs).take (k + 1)).flatMap twoF = bareC ds ++ twoF vs[k].2 by
     rw [fm_step twoF (bareC vs) k (by simpa [bareC] using hlt), BD.out]; simp [bareC])
    have T2 : (twoF vs[k].2).length ≤ 9216 := Nat.le_trans (twoF_len _) (Nat.mul_le_mul h96 h96)
    have T3 := Lib.hid (show ∀ es : List LCl, bareC es = twoF vs[k].2 → es.length ≤ 9216 from fun es he => by
     have := congrArg List.length he; rw [bareC, List.length_map] at this; omega)
    clear hcs hro v1 I1 hVB CL e9 BD OVr hcap1 T2
    generalize vs[k].2 = zs at *
    clear hlt
    generalize zs.length = nz at *
    obtain ⟨dsl, dcap, rfl⟩ := OD.out.v
    have hdc := own_cap OD.out.row
    go_wp2_with fail
    refine EN.out.mono ?_
    rintro e w4 ⟨v4, es, rfl, O4, be4, b4⟩
    have H4 := Lib.hid (bT HD.out b4)
    have OE := Lib.hid O4
    have les := T3.out es be4
    have BN : Hid (bareC (ds ++ es) = ((bareC vs).take (k + 1)).flatMap twoF) := by rw [BS.out, bareC_add, be4]; exact Lib.hid rfl
    have hs3 := HD.out.size
    obtain ⟨v9, w9, hr9, n9, grow9, hlo9⟩ := app43 OD.out b4 O4 hs3 (by omega)
    have N9 := Lib.hid n9
    have H9 := Lib.hid (H4.out.grown grow9 (by have := H4.out.size; omega) hlo9)
    have L9 : (ds ++ es).length ≤ (k + 1) * 10000 := by rw [List.length_append]; omega
    clear n9 grow9 hlo9 b4 O4 OE be4 EN OD HD H4
    generalize ds ++ es = ds9 at *
    go_wp2_with (at_builtin; refine Lib.wpList_append_run _ rfl _ _ _ _ rfl _ _ rfl rfl _ _ hr9 ?_)
    go_roundw
    case rel => exact ⟨k + 1, ds9, by go_num, by omega, N9, L9, BN, H9⟩
    case measure => simp [intOf]; omega
   ·have g1' : ¬ (k : Int) < (ni : Int) := by omega
    have hdl4 : ds.length ≤ 4000000 := by omega
    have DA := Lib.hid (bT D3.out HD.out)
    have XT := HT.out.below DA.out
    obtain ⟨t0, t1⟩ := XT.cells
    have tl := XT.lt
    have hs3 := HD.out.size
    have hs0 := D3.out.size
    have BT := Lib.hid (show bareC ds = (numR rows).flatMap twoF by rw [BD.out, HBV.out, List.take_of_length_le (by rw [numR_len, RL]; omega)])
    obtain ⟨sl8, cap8, e8, CL8⟩ := (OV3.out.below HD.out).cls
    obtain ⟨rfl, rfl⟩ : vsl = sl8 ∧ vcap = cap8 := by cases e8; exact ⟨rfl, rfl⟩
    have E5 := Lib.hid (nb_any sl rn cap sl2 cap2 sl3 cap3 bc ni vsl vcap rs ps ids rows vs wr IR.out.2.1 (HP.out.below (bT B0.out DA.out)) HW.out (HI.out.below (bT B0.out DA.out)) (by rw [HNI.out]; exact h400) (idsR_rise IR.out) (by rw [RL, HNI.out]) (RW3.out.below HD.out) CL8 HBV.out (ch_small top IR.out HM.out) (fun r hr => (V96.out r hr).1) (ch_96 top IR.out.2.1 HM.out))
    rw [HPN.out, HNI.out, RL, VL] at E5
    obtain ⟨dsl, dcap, rfl⟩ := OD.out.v
    clear XT BD CL8 e8 hFL
    go_wp2_with fail
    refine E5.out.mono ?_
    rintro e w5 ⟨v5, es, rfl, O5, be5, les, b5⟩
    have H5 := Lib.hid (bT HD.out b5)
    obtain ⟨v6, w6, hr6, o6, grow6, hlo6⟩ := app43 OD.out b5 O5 hs3 (by omega)
    have O6 := Lib.hid o6
    have H6 := Lib.hid (H5.out.grown grow6 (by have := H5.out.size; omega) hlo6)
    have L6 : (ds ++ es).length ≤ 4400000 := by rw [List.length_append]; omega
    have B6 := Lib.hid (show bareC (ds ++ es) = (numR rows).flatMap twoF ++ ps.flatMap (besI ps ids (nbsF 0 (rows.map fun r => r.2))) by rw [bareC_add, BT.out, be5])
    clear o6 grow6 hlo6 b5 O5 be5 OD HD H5 BT E5 t0 t1 tl
    generalize ds ++ es = cs6 at *
    obtain ⟨s6, c6, rfl⟩ := O6.out.v
    obtain ⟨sl8, cap8, e8, CL8⟩ := (OV3.out.below H6.out).cls
    obtain ⟨rfl, rfl⟩ : vsl = sl8 ∧ vcap = cap8 := by cases e8; exact ⟨rfl, rfl⟩
    have FV := Lib.hid (show (flatC vs).length = (plF rs top ids).length by rw [flatC_bare, HBV.out, numR_flat, FR.out])
    have E7 := Lib.hid (catZ_any vsl vcap vs w6 (by omega) (by rw [FV.out]; omega) CL8)
    rw [VL, FV.out] at E7
    clear CL8 e8
    generalize hPF : (plF rs top ids).length = pf at *
    have HPF := Lib.hid hPF
    clear hPF
    go_wp2_with (first | (at_builtin; refine Lib.wpList_append_run _ rfl _ _ _ _ rfl _ _ rfl rfl _ _ hr6 ?_))
    refine E7.out.mono ?_
    rintro e w7 ⟨v7, rfl, o7, b7⟩
    obtain ⟨s7, c7, rfl⟩ := own_v o7
    have H7 := Lib.hid (bT H6.out b7)
    obtain ⟨v9, w9, hr9, o9, grow9, hlo9⟩ := app43 OV3.out H7.out (O6.out.below b7) hs0 (by omega)
    rw [VL] at hr9 grow9 hlo9
    obtain ⟨s9, c9, e9⟩ := o9.v
    generalize (vs ++ cs6).length = n9 at *
    subst e9
    have H9 := Lib.hid ((bT D3.out H7.out).grown grow9 (by have := (bT D3.out H7.out).size; omega) hlo9)
    obtain ⟨rl, r0, r1, f0, f1⟩ := BoxR.facts (show BoxR w9 (w.heap.size + 1) from (H9.out.block _ (by omega)).trans HR.out)
    have P : Hid (OwC ((w9.setCell ⟨w.heap.size + 1, 0, none⟩ (.int .i64 (pf : Nat))).setCell ⟨w.heap.size + 1, 1, none⟩ (.slice s9 n9 c9)) w.heap.size (.slice s9 n9 c9) (vs ++ cs6) ∧ bareC (vs ++ cs6) = cnA rs ps top ids ∧ Below w.heap.size w ((w9.setCell ⟨w.heap.size + 1, 0, none⟩ (.int .i64 (pf : Nat))).setCell ⟨w.heap.size + 1, 1, none⟩ (.slice s9 n9 c9))) := by
     refine ⟨((o9.set (by omega) _ _).set (by omega) _ _).mono (by omega), ?_, (((B0.out.trans (H9.out.mono (by omega)))).setCell (Nat.le_add_right _ 1) _).setCell (Nat.le_add_right _ 1) _⟩
     rw [bareC_add, B6.out, HBV.out, CA.out, HM.out]
     unfold cnfI numR
     rw [HM.out, List.flatMap_map]
    clear o9 grow9 hlo9 b7 o7 E7 H9 H7 O6 H6 OV3
    go_wp2_with (first | (at_builtin; refine Lib.wpList_append_run _ rfl _ _ _ _ rfl _ _ rfl rfl _ _ hr9 ?_))
    refine bodyPost_ret (v := .agg #[.int .i64 (pf : Nat), .slice s9 n9 c9]) (by simp [results, Tryz.results140, go_sem, r0, r1]) rfl ⟨_, vs ++ cs6, by rw [HPF.out], P.out⟩
 ·rw [B_no hIR] at E1
  have CN := Lib.hid (show cnN rs ps top ids = 0 by unfold cnN; rw [if_neg (by rw [B_no hIR]; simp)])
  have CA := Lib.hid (show cnA rs ps top ids = [] by unfold cnA; rw [if_neg (by rw [B_no hIR]; simp)])
  rw [CN.out, CA.out]
  clear hIR hz hp hi hw CN CA
  generalize rs.length = rn at *
  generalize ps.length = pn at *
  generalize ids.length = ni at *
  go_enter Tryz.func140, Tryz.ntmps140
  go_wp2_with fail
  generalize (w.alloc (.cells #[.slice sl rn cap, .slice sl2 pn cap2] 26)).alloc (.cells #[.int .i64 0, .slice none 0 0] 110) = w0 at *
  refine (E1.out _ B0.out).mono ?_
  rintro e w1 ⟨rfl, b1⟩
  have D1 := Lib.hid (bT B0.out b1)
  obtain ⟨rl, r0, r1, f0, f1⟩ := BoxR.facts (show BoxR w1 (w.heap.size + 1) from (b1.block _ (by omega)).trans HR.out)
  have P : Hid (Below w.heap.size w ((w1.setCell ⟨w.heap.size + 1, 0, none⟩ (.int .i64 0)).setCell ⟨w.heap.size + 1, 1, none⟩ (.slice none 0 0))) := (D1.out.setCell (Nat.le_add_right _ 1) _).setCell (Nat.le_add_right _ 1) _
  clear b1 E1 HT HR
  go_wp2
  refine bodyPost_ret (v := .agg #[.int .i64 0, .slice none 0 0]) (by simp [results, Tryz.results140, go_sem, r0, r1]) rfl ⟨_, [], rfl, OwC.nil _ _, rfl, P.out⟩
end Go.Proofs.YtnihhbfgbilimaaGreatDoor
namespace Go.Proofs.YtnihhbfgbilimaaGreatDoor
open Go.RowKit Go.Shelf
set_option linter.unusedVariables false
attribute [local go_sem] Oper.semAt_some
def ClT (ts zs : List Int) : Prop := ∃ z ∈ zs, (lv z ∈ ts ↔ 0 < z)
def NoT (ts zs : List Int) : Prop := ∀ z ∈ zs, ¬ (lv z ∈ ts ↔ 0 < z)
theorem NoT.nil (ts : List Int) : NoT ts [] := fun z h => absurd h List.not_mem_nil
theorem NoT.no {ts zs : List Int} (h : NoT ts zs) : ¬ ClT ts zs := fun ⟨z, hz, e⟩ => h z hz e
def MarkQ (w : World) (b s : Nat) (k : Int) (i : Nat) : Prop := ∃ vs : Array Value, w.heap[b]? = some (.cells vs 131) ∧ vs.size = s ∧ ∀ j, j < i → vs[j]? = some (.int .i64 (k + (j : Int)))
theorem MarkQ.step {w : World} {b s : Nat} {k : Int} {i : Nat} (h : MarkQ w b s k i) (hi : i < s) : MarkQ (w.setCell ⟨b, i, none⟩ (.int .i64 (k + (i : Int)))) b s k (i + 1) := by
 obtain ⟨vs, h1, h2, h3⟩ := h
 refine ⟨_, heap_setCell_same w b i vs 131 _ h1, by simp [h2], fun j hj => ?_⟩
 rw [Array.getElem?_setIfInBounds]
 by_cases e : i = j
 ·subst e; simp [h2, hi]
 ·rw [if_neg e]; exact h3 j (by omega)
theorem MarkQ.cell {w : World} {b s : Nat} {k : Int} {i : Nat} (h : MarkQ w b s k i) (j : Nat) (hj : j < s) : (∃ v, w.cell? ⟨b, j, none⟩ = some v) ∧ w.frozen? ⟨b, j, none⟩ = false := by
 obtain ⟨vs, h1, h2, h3⟩ := h
 exact ⟨⟨vs[j]'(by omega), by simp [World.cell?, h1, show j < vs.size by omega]⟩, by simp [World.frozen?, h1]⟩
theorem MarkQ.at {w : World} {b s : Nat} {k : Int} {i : Nat} (h : MarkQ w b s k i) (j : Nat) (hj : j < i) : w.cell? ⟨b, j, none⟩ = some (.int .i64 (k + (j : Int))) := by
 obtain ⟨vs, h1, h2, h3⟩ := h
 have := h3 j hj
 simp [World.cell?, h1, this]
theorem MarkQ.lt {w : World} {b s : Nat} {k : Int} {i : Nat} (h : MarkQ w b s k i) : b < w.heap.size := by
 obtain ⟨vs, h1, _⟩ := h
 exact (Array.getElem?_eq_some_iff.1 h1).1
def SameTo (zs ys : List Int) (k : Nat) : Prop := ∀ i, i < k → zs.getD i 0 = ys.getD i 0
theorem SameTo.step {zs ys : List Int} {k : Nat} (h : SameTo zs ys k) (g : zs.getD k 0 = ys.getD k 0) : SameTo zs ys (k + 1) := fun i hi => by
 by_cases e : i = k
 ·subst e; exact g
 ·exact h i (by omega)
theorem SameTo.all {zs ys : List Int} {k : Nat} (h : SameTo zs ys k) (hl : zs.length = ys.length) (hk : zs.length ≤ k) : zs = ys := by
 apply List.ext_getElem hl
 intro i h1 h2
 have := h i (by omega)
 simpa [h1, h2] using this
set_option maxRecDepth 100000 in
set_option maxHeartbeats 1000000 in
theorem eqz_any (sl : Option Addr) (cap : Nat) (zs : List Int) (sl2 : Option Addr) (cap2 : Nat) (ys : List Int) (w : World) (hn : zs.length ≤ 1048576) (hm : ys.length ≤ 1048576) (hz : Ints w sl zs) (hy : Ints w sl2 ys) :
  Calls Tryz.prog 116 #[.slice sl zs.length cap, .slice sl2 ys.length cap2] w fun e w' => e = .returned (.bool (B (zs = ys))) ∧ Below w.heap.size w w' := by
 by_cases hl : zs.length = ys.length
 ·have YY := Lib.hid (show ∀ k, zs.length ≤ k → SameTo zs ys k → B (zs = ys) = true from fun k hk h => B_yes (h.all hl hk))
  have NN := Lib.hid (show ∀ k, zs.getD k 0 ≠ ys.getD k 0 → B (zs = ys) = false from fun k h => B_no (fun e => h (by rw [e])))
  have HZ := Lib.hid hz
  have HY := Lib.hid hy
  rw [← hl]
  have HLL := Lib.hid hl
  clear hz hy hm hl
  generalize hN : zs.length = n at *
  have HN := Lib.hid hN
  clear hN
  go_enter Tryz.func116, Tryz.ntmps116
  go_wp2
  go_loopw [13] (fun i wr => ∃ k : Nat, i = .int .i64 k ∧ k ≤ n ∧ Hid (SameTo zs ys k) ∧ Hid (Below w.heap.size w wr)) (fun i _ => n - (intOf i).toNat)
  case atStart => exact ⟨0, rfl, Nat.zero_le _, fun i h => absurd h (Nat.not_lt_zero _), Below.refl _ _⟩
  case round =>
   obtain ⟨k, rfl, hk, H1, H2⟩ := hrel
   have hk0 : (0 : Int) ≤ (k : Int) := by omega
   by_cases h1 : k < n
   ·have h1' : (k : Int) < (n : Int) := by omega
    have hlt : k < zs.length := by rw [HN.out]; exact h1
    have hlt2 : k < ys.length := by rw [← HLL.out]; exact h1
    obtain ⟨c, o, rfl, ZI⟩ : ∃ c o, sl = some ⟨c, o, none⟩ ∧ IntsAt w c o zs := by
     rcases HZ.out with e | h
     ·rw [e] at hlt; simp at hlt
     ·exact h
    obtain ⟨c2, o2, rfl, YI⟩ : ∃ c o, sl2 = some ⟨c, o, none⟩ ∧ IntsAt w c o ys := by
     rcases HY.out with e | h
     ·rw [e] at hlt2; simp at hlt2
     ·exact h
    have hc := (H2.out.cell (p := ⟨c, o + k, none⟩) ZI.1).trans (ZI.2 k hlt)
    have hd := (H2.out.cell (p := ⟨c2, o2 + k, none⟩) YI.1).trans (YI.2 k hlt2)
    by_cases e : zs.getD k 0 = ys.getD k 0
    ·have e' : (zs.getD k 0 != ys.getD k 0) = false := by rw [e]; simp
     have HS := Lib.hid (H1.out.step e)
     clear hlt hlt2 ZI YI e H1
     generalize zs.getD k 0 = z at *
     generalize ys.getD k 0 = y at *
     go_wp2
     go_quiet (fail)
     go_wp2
     go_roundw
     case rel => exact ⟨k + 1, by go_num, by omega, HS, below_drewN H2.out _⟩
     case measure => simp [intOf]; omega
    ·have e' : (zs.getD k 0 != ys.getD k 0) = true := by simpa using e
     have HF := Lib.hid (NN.out k e)
     clear hlt hlt2 ZI YI e H1
     generalize zs.getD k 0 = z at *
     generalize ys.getD k 0 = y at *
     go_wp2
     go_quiet (fail)
     go_wp2
     go_ret
     exact ⟨by rw [HF.out]; rfl, below_drewN H2.out _⟩
   ·have h1' : ¬ (k : Int) < (n : Int) := by omega
    have HE := Lib.hid (YY.out k (by omega) H1.out)
    go_wp2
    go_ret
    exact ⟨by rw [HE.out]; rfl, H2.out⟩
 ·have hl' : ((zs.length : Int) != (ys.length : Int)) = true := by simpa using (show ¬ (zs.length : Int) = (ys.length : Int) by omega)
  rw [B_no (fun e => hl (by rw [e]))]
  clear hz hy hl
  generalize zs.length = n at *
  generalize ys.length = m at *
  go_enter Tryz.func116, Tryz.ntmps116
  go_wp2
  go_ret
  exact ⟨rfl, Below.refl _ _⟩
def poP (qs : List LPl) (ts : List Int) : List LPl := ts.map fun v => qs.getD (v - 1).toNat (0, 0)
def PoOK (rs : List LSt) (ps : List LPr) (top : Int) (ids ts : List Int) : Prop := ts.length ≤ 400 ∧ IdsR rs ps ids ∧ InRise 1 (plF rs top ids).length ts ∧ pidsL (poP (plF rs top ids) ts) = ids
noncomputable def poA (rs : List LSt) (ps : List LPr) (top : Int) (ids ts : List Int) : List LPl := if B (PoOK rs ps top ids ts) = true then poP (plF rs top ids) ts else []
theorem poA_no {rs : List LSt} {ps : List LPr} {top : Int} {ids ts : List Int} (h : ¬ PoOK rs ps top ids ts) : poA rs ps top ids ts = [] := by unfold poA; rw [B_no h]; rfl
theorem poA_yes {rs : List LSt} {ps : List LPr} {top : Int} {ids ts : List Int} (h : PoOK rs ps top ids ts) : poA rs ps top ids ts = poP (plF rs top ids) ts := by unfold poA; rw [B_yes h]; rfl
theorem poP_step (qs : List LPl) (ts : List Int) (k : Nat) (h : k < ts.length) : poP qs (ts.take (k + 1)) = poP qs (ts.take k) ++ [qs.getD (ts.getD k 0 - 1).toNat (0, 0)] := by
 unfold poP
 rw [List.take_succ_eq_append_getElem h, List.map_append]
 simp [h]
theorem pls_of {w : World} {sl : Option Addr} {pl : List LPl} {B : Nat} (h : pl = [] ∨ ∃ c, sl = some ⟨c, 0, none⟩ ∧ PlAt w c 0 pl ∧ B ≤ c) : Pls w sl pl := by
 rcases h with h | ⟨c, e, p, _⟩
 ·exact .inl h
 ·exact .inr ⟨c, 0, e, p⟩
set_option maxRecDepth 100000 in
set_option maxHeartbeats 4000000 in
theorem ipo_any (sl : Option Addr) (cap : Nat) (sl2 : Option Addr) (cap2 : Nat) (sl3 : Option Addr) (cap3 : Nat) (sl4 : Option Addr) (cap4 : Nat) (rs : List LSt) (ps : List LPr) (ids ts : List Int) (top : Int) (w : World) (hn : rs.length ≤ 1048576) (hl : ids.length ≤ maxLen) (hm : ts.length ≤ maxLen) (hz : Sts w sl rs) (hp : Prs w sl2 ps) (hw : ∀ p ∈ ps, WfP p) (hi : Ints w sl3 ids) (ht : Ints w sl4 ts) :
  Calls Tryz.prog 141 #[TV sl rs.length cap sl2 ps.length cap2, .int .i64 top, .slice sl3 ids.length cap3, .slice sl4 ts.length cap4] w fun e w' => ∃ v, e = .returned v ∧ w'.ownsRow w.heap.size 131 2 v (poA rs ps top ids ts).length (enCells (poA rs ps top ids ts)) ∧ Below w.heap.size w w' := by
 obtain ⟨i3, hi3, hd0, hd1, hd2⟩ := info_parts info34
 have HT := Lib.hid (TabAtD.new w sl rs.length cap sl2 ps.length cap2)
 have B0 := Lib.hid (bA0 w (.cells #[.slice sl rs.length cap, .slice sl2 ps.length cap2] 26))
 have E1 : Hid (∀ W, Below w.heap.size w W → Calls Tryz.prog 65 #[TV sl rs.length cap sl2 ps.length cap2, .slice sl3 ids.length cap3] W fun e w' => e = .returned (.bool (B (IdsR rs ps ids))) ∧ Below W.heap.size W w') := fun W hW => iir_any sl cap sl2 cap2 sl3 cap3 rs ps ids W hn hl (hz.below hW) (hp.below hW) hw (hi.below hW)
 have E2 : Hid (∀ q : Int, ∀ W, Below w.heap.size w W → Calls Tryz.prog 127 #[.slice sl4 ts.length cap4, .int .i64 1, .int .i64 q] W fun e w' => e = .returned (.bool (B (InRise 1 q ts))) ∧ Below W.heap.size W w') := fun q W hW => rw_any 1 q sl4 cap4 ts W hm (ht.below hW)
 unfold maxLen at hl hm
 by_cases h4 : 400 < ts.length
 ·have h4' : (400 : Int) < (ts.length : Int) := by omega
  rw [poA_no (fun g => by have := g.1; omega)]
  clear hz hp hw hi ht E1 E2 HT
  generalize rs.length = rn at *
  generalize ps.length = pn at *
  generalize ids.length = n at *
  generalize ts.length = m at *
  go_enter Tryz.func141, Tryz.ntmps141
  go_wp2
  go_ret
  exact ⟨_, rfl, ⟨rfl, .inl ⟨rfl, rfl⟩⟩, B0.out⟩
 have h4' : ¬ (400 : Int) < (ts.length : Int) := by omega
 cases hb : B (IdsR rs ps ids) with
 | false =>
  rw [poA_no (fun g => B_false hb g.2.1)]
  rw [hb] at E1
  clear hb hz hp hw hi ht E2 HT
  generalize rs.length = rn at *
  generalize ps.length = pn at *
  generalize ids.length = n at *
  generalize ts.length = m at *
  go_enter Tryz.func141, Tryz.ntmps141
  go_wp2_with fail
  refine (E1.out _ B0.out).mono ?_
  rintro e w1 ⟨rfl, b1⟩
  have D1 := Lib.hid (bT B0.out b1)
  clear b1 E1
  go_wp2
  go_ret
  exact ⟨_, rfl, ⟨rfl, .inl ⟨rfl, rfl⟩⟩, D1.out⟩
 | true =>
  rw [hb] at E1
  have IR := B_true hb
  have hpl : (plF rs top ids).length ≤ 38400 := by
   have := plF_le top ids IR.2.1
   have := IR.1
   omega
  have E3 : Hid (∀ W, Below w.heap.size w W → Calls Tryz.prog 172 #[TV sl rs.length cap sl2 ps.length cap2, .int .i64 top, .slice sl3 ids.length cap3] W fun e w' => ∃ b rows, e = .returned (.slice (some ⟨b, 0, none⟩) ids.length ids.length) ∧ rows.map (fun r => r.2) = ids.map (chF rs top) ∧ Rws w' (some ⟨b, 0, none⟩) rows ∧ Below W.heap.size W w') := fun W hW => ch_any sl cap sl2 cap2 sl3 cap3 rs ps top ids W IR.1 (hz.below hW) IR.2.1 (hi.below hW)
  have E4 : Hid (∀ b rows W, rows.map (fun r => r.2) = ids.map (chF rs top) → Rws W (some ⟨b, 0, none⟩) rows → Calls Tryz.prog 177 #[.slice (some ⟨b, 0, none⟩) ids.length ids.length] W fun e w' => ∃ s c, e = .returned (.slice s (plF rs top ids).length c) ∧ (plF rs top ids = [] ∨ ∃ c, s = some ⟨c, 0, none⟩ ∧ PlAt w' c 0 (plF rs top ids) ∧ W.heap.size ≤ c) ∧ Below W.heap.size W w') := fun b rows W er r => by
   have hl' : rows.length = ids.length := by have := congrArg List.length er; simpa using this
   have := cat_any (some ⟨b, 0, none⟩) ids.length rows W (by rw [hl']; have := IR.1; omega) (by rw [flatR_map er]; omega) r
   rw [hl', flatR_map er] at this
   refine this.mono ?_
   rintro e w' ⟨v, rfl, o, bl⟩
   obtain ⟨s, c, rfl, h⟩ := own_pls o
   exact ⟨s, c, rfl, h, bl⟩
  have h400 := IR.1
  have E5 : Hid (∀ zs s c W, Below w.heap.size w W → zs.length ≤ 400 → Ints W s zs → Calls Tryz.prog 116 #[.slice s zs.length c, .slice sl3 ids.length cap3] W fun e w' => e = .returned (.bool (B (zs = ids))) ∧ Below W.heap.size W w') := fun zs s c W hW h i => eqz_any s c zs sl3 cap3 ids W (by omega) (by omega) i (hi.below hW)
  cases hc : B (InRise 1 (plF rs top ids).length ts) with
  | false =>
   rw [poA_no (fun g => B_false hc g.2.2.1)]
   have E2' : Hid (∀ W, Below w.heap.size w W → Calls Tryz.prog 127 #[.slice sl4 ts.length cap4, .int .i64 1, .int .i64 ((plF rs top ids).length : Int)] W fun e w' => e = .returned (.bool false) ∧ Below W.heap.size W w') := fun W hW => by
    have := E2.out ((plF rs top ids).length : Int) W hW
    rwa [hc] at this
   clear hb hc hz hp hw hi ht IR E2 E5
   generalize plF rs top ids = qs at *
   generalize rs.length = rn at *
   generalize ps.length = pn at *
   generalize ids.length = n at *
   generalize ts.length = m at *
   generalize qs.length = q at *
   go_enter Tryz.func141, Tryz.ntmps141
   go_wp2_with fail
   refine (E1.out _ B0.out).mono ?_
   rintro e w1 ⟨rfl, b1⟩
   have D1 := Lib.hid (bT B0.out b1)
   have TA := HT.out.below b1
   obtain ⟨t0, t1⟩ := TA.cells
   have tl := TA.lt
   clear b1 E1 TA
   go_wp2_with fail
   refine (E3.out _ D1.out).mono ?_
   rintro e w2 ⟨b4, rows, rfl, er, r4, bl4⟩
   have D2 := Lib.hid (bT D1.out bl4)
   have T4 := Lib.hid (E4.out b4 rows _ er r4)
   clear bl4 er r4 E3 t0 t1 tl
   go_wp2_with fail
   refine T4.out.mono ?_
   rintro e w5 ⟨s5, c5, rfl, -, b5⟩
   have D5 := Lib.hid (bT D2.out b5)
   clear b5 T4
   go_wp2_with fail
   refine (E2'.out _ D5.out).mono ?_
   rintro e w6 ⟨rfl, b6⟩
   have D6 := Lib.hid (bT D5.out b6)
   clear b6 E2'
   go_wp2
   go_ret
   exact ⟨_, rfl, ⟨rfl, .inl ⟨rfl, rfl⟩⟩, D6.out⟩
  | true =>
   have IT := Lib.hid (B_true hc)
   have E2' : Hid (∀ W, Below w.heap.size w W → Calls Tryz.prog 127 #[.slice sl4 ts.length cap4, .int .i64 1, .int .i64 ((plF rs top ids).length : Int)] W fun e w' => e = .returned (.bool true) ∧ Below W.heap.size W w') := fun W hW => by
    have := E2.out ((plF rs top ids).length : Int) W hW
    rwa [hc] at this
   have YY := Lib.hid (show pidsL (poP (plF rs top ids) ts) = ids → poA rs ps top ids ts = poP (plF rs top ids) ts from fun e => poA_yes ⟨by omega, IR, IT.out, e⟩)
   have NN := Lib.hid (show ¬ pidsL (poP (plF rs top ids) ts) = ids → poA rs ps top ids ts = [] from fun e => poA_no (fun g => e g.2.2.2))
   have HTS := Lib.hid ht
   clear hb hc hz hp hw hi ht IR E2
   generalize poA rs ps top ids ts = ans at *
   generalize plF rs top ids = qs at *
   generalize rs.length = rn at *
   generalize ps.length = pn at *
   generalize ids.length = n at *
   generalize hM : ts.length = m at *
   have HM := Lib.hid hM
   clear hM
   generalize hQ : qs.length = q at *
   have HQ := Lib.hid hQ
   clear hQ
   go_enter Tryz.func141, Tryz.ntmps141
   go_wp2_with fail
   refine (E1.out _ B0.out).mono ?_
   rintro e w1 ⟨rfl, b1⟩
   have D1 := Lib.hid (bT B0.out b1)
   have TA := HT.out.below b1
   obtain ⟨t0, t1⟩ := TA.cells
   have tl := TA.lt
   clear b1 E1 TA
   go_wp2_with fail
   refine (E3.out _ D1.out).mono ?_
   rintro e w2 ⟨b4, rows, rfl, er, r4, bl4⟩
   have D2 := Lib.hid (bT D1.out bl4)
   have T4 := Lib.hid (E4.out b4 rows _ er r4)
   clear bl4 er r4 E3 t0 t1 tl
   go_wp2_with fail
   refine T4.out.mono ?_
   rintro e w5 ⟨s5, c5, rfl, z5, b5⟩
   have D5 := Lib.hid (bT D2.out b5)
   have Z5 := Lib.hid (pls_of z5)
   clear b5 T4 z5
   go_wp2_with fail
   refine (E2'.out _ D5.out).mono ?_
   rintro e w6 ⟨rfl, b6⟩
   have D6 := Lib.hid (bT D5.out b6)
   have Z6 := Lib.hid (Z5.out.below b6)
   clear b6 E2' Z5 D5 D2 D1 E4
   go_wp2
   go_loopw [10, 34] (fun v i wr => ∃ (k : Nat) (cu : List LPl), i = .int .i64 k ∧ k ≤ m ∧ cu.length ≤ k ∧ Hid (cu = poP qs (ts.take k)) ∧ Hid (wr.ownsRow w6.heap.size 131 2 v cu.length (enCells cu)) ∧ Hid (Below w6.heap.size w6 wr)) (fun _ i _ => m - (intOf i).toNat)
   case atStart => exact ⟨0, [], rfl, Nat.zero_le _, Nat.zero_le _, rfl, ⟨rfl, .inl ⟨rfl, rfl⟩⟩, Below.refl _ _⟩
   case round =>
    obtain ⟨k, cu, rfl, hk, hcl, HC, OR, HB⟩ := hrel
    have hk0 : (0 : Int) ≤ (k : Int) := by omega
    have DW := Lib.hid (bT D6.out HB.out)
    by_cases g1 : k < m
    ·have g1' : (k : Int) < (m : Int) := by omega
     have hlt : k < ts.length := by rw [HM.out]; exact g1
     obtain ⟨g, o, rfl, TI⟩ : ∃ g o, sl4 = some ⟨g, o, none⟩ ∧ IntsAt w g o ts := by
      rcases HTS.out with e | h
      ·rw [e] at hlt; simp at hlt
      ·exact h
     have hc := (DW.out.cell (p := ⟨g, o + k, none⟩) TI.1).trans (TI.2 k hlt)
     have hzb := (IT.out k hlt).1
     have PS := Lib.hid (poP_step qs ts k hlt)
     clear hlt TI
     generalize ts.getD k 0 = z at *
     obtain ⟨z1, z2⟩ := hzb
     obtain ⟨j, rfl⟩ : ∃ j : Nat, z = (j : Int) + 1 := ⟨(z - 1).toNat, by omega⟩
     have hjq : j < q := by omega
     have hjn : ((j : Int) + 1 - 1).toNat = j := by omega
     have hlt2 : j < qs.length := by rw [HQ.out]; exact hjq
     obtain ⟨c, o2, rfl, PA⟩ : ∃ c o, s5 = some ⟨c, o, none⟩ ∧ PlAt w6 c o qs := by
      rcases Z6.out with e | h
      ·rw [e] at hlt2; simp at hlt2
      ·exact h
     have PB := PA.below HB.out
     obtain ⟨d0, d1⟩ := PB.cell j hlt2
     have cl := PB.lt
     obtain ⟨a, b, hpj⟩ : ∃ a b, qs[j] = (a, b) := ⟨_, _, rfl⟩
     rw [hpj] at d0 d1
     dsimp only at d0 d1
     have CS := Lib.hid (show cu ++ [(a, b)] = poP qs (ts.take (k + 1)) by
      rw [PS.out, ← HC.out, hjn, ← hpj]
      simp [hlt2])
     have EV := Lib.hid (show enCells cu ++ [.int .i64 a, .int .i64 b] = enCells (cu ++ [(a, b)]) from (enCells_add cu (a, b)).symm)
     have hjz : (0 : Int) ≤ (j : Int) := by omega
     have hjz2 : (j : Int) < (q : Int) := by omega
     have hsw := HB.out.size
     clear hlt2 PA PB hpj PS HC hjn z1 z2
     go_wp2_with (first | (at_builtin; refine wpList_append_lies _ rfl (.tmp 38) (.tmp 44) 28 rfl w6.heap.size 131 i3 (.agg #[.int .i64 0, .int .i64 0]) 2 16 Tryz.underlying28 hi3 hd0 hd1 hd2 rfl (by decide) _ _ _ rfl (OR.out.alloc _) ⟨wr.heap.size, 0, none⟩ 1 1 [.int .i64 a, .int .i64 b] rfl rfl (cell_two_new _ _ _ _) (by intro u hu; simp at hu; rcases hu with rfl | rfl <;> rfl) (by decide) (by unfold maxLen; omega) (by omega) (by simp; omega) (wr.heap.size + 1) (by simp) ?_))
     intro g9 cap9 w9 own9 grow9 hg9 hlt9
     have B9 := Lib.hid ((bA HB.out (.cells #[.int .i64 a, .int .i64 b] 131)).grown grow9 (by simp; omega) (fun j hj => (OR.out.lt j hj).1))
     rw [EV.out] at own9
     have N9 : Hid (w9.ownsRow w6.heap.size 131 2 (.slice (some ⟨g9, 0, none⟩) (cu.length + 1) cap9) (cu ++ [(a, b)]).length (enCells (cu ++ [(a, b)]))) := by
      rw [List.length_append]; exact own9
     have LL := Lib.hid (show (cu ++ [(a, b)]).length ≤ k + 1 by rw [List.length_append]; simp; omega)
     clear own9 grow9 hg9 hlt9 OR HB EV
     go_wp2
     go_roundw
     case rel => exact ⟨k + 1, cu ++ [(a, b)], by go_num, by omega, LL.out, CS, N9, B9⟩
     case measure => simp [intOf]; omega
    ·have g1' : ¬ (k : Int) < (m : Int) := by omega
     have CE := Lib.hid (show cu = poP qs ts by rw [HC.out, List.take_of_length_le (by rw [HM.out]; omega)])
     have OF := Lib.hid (own_mono OR.out D6.out.size)
     obtain ⟨sv, cv, rfl, pv⟩ := own_pls OR.out
     have E6 := Lib.hid (ipi_any sv cv cu wr (by unfold maxLen; omega) (pls_of pv))
     rw [pidsA_eq (show cu.length ≤ 400 by omega)] at E6
     have L6 := Lib.hid (show (pidsL cu).length ≤ 400 by rw [pidsL_len]; omega)
     have YZ := Lib.hid (show pidsL cu = ids → ans = cu from fun e => by rw [CE.out]; rw [CE.out] at e; exact YY.out e)
     have NZ := Lib.hid (show ¬ pidsL cu = ids → ans = [] from fun e => by rw [CE.out] at e; exact NN.out e)
     clear HC OR CE YY NN pv
     go_wp2_with fail
     refine E6.out.mono ?_
     rintro e w7 ⟨v7, rfl, o7, b7⟩
     obtain ⟨s7, c7, rfl, i7⟩ := own_ints o7
     have D7 := Lib.hid (bT DW.out b7)
     have OF7 := Lib.hid (own_below OF.out b7)
     have T8 := Lib.hid (E5.out _ s7 c7 w7 D7.out L6.out i7)
     clear o7 b7 i7 E6 OF
     cases hbb : B (pidsL cu = ids) with
     | true =>
      rw [hbb] at T8
      have AN := Lib.hid (YZ.out (B_true hbb))
      clear hbb YZ NZ
      generalize (pidsL cu).length = idn at *
      go_wp2_with fail
      refine T8.out.mono ?_
      rintro e w8 ⟨rfl, b8⟩
      have D8 := Lib.hid (bT D7.out b8)
      have OF8 := Lib.hid (own_below OF7.out b8)
      rw [← AN.out] at OF8
      clear b8 T8
      go_wp2
      go_ret
      exact ⟨_, rfl, by rw [AN.out] at OF8 ⊢; exact OF8.out, D8.out⟩
     | false =>
      rw [hbb] at T8
      have AN := Lib.hid (NZ.out (B_false hbb))
      clear hbb YZ NZ
      generalize (pidsL cu).length = idn at *
      go_wp2_with fail
      refine T8.out.mono ?_
      rintro e w8 ⟨rfl, b8⟩
      have D8 := Lib.hid (bT D7.out b8)
      clear b8 T8
      go_wp2
      go_ret
      exact ⟨_, rfl, by rw [AN.out]; exact ⟨rfl, .inl ⟨rfl, rfl⟩⟩, D8.out⟩
end Go.Proofs.YtnihhbfgbilimaaGreatDoor
