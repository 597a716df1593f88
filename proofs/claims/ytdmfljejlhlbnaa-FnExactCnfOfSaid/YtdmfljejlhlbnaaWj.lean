/-
  THE CLAUSES OF A TABLE as the program makes them: impl.CnfOf.
-/
import Derived.Test.YtdmfljejlhlbnaaWi
namespace Go.Proofs.Ytdmfljejlhlbnaa
open Go.RowKit
set_option linter.unusedVariables false

/-- The result's box, before it is filled. -/
def BoxR (w : World) (b : Nat) : Prop := w.heap[b]? = some (.cells #[.int .i64 0, .slice none 0 0] 45)
theorem BoxR.facts {w : World} {b : Nat} (h : BoxR w b) : b < w.heap.size ∧ w.cell? ⟨b, 0, none⟩ = some (.int .i64 0) ∧ w.cell? ⟨b, 1, none⟩ = some (.slice none 0 0) ∧ w.frozen? ⟨b, 0, none⟩ = false ∧ w.frozen? ⟨b, 1, none⟩ = false := by
  unfold BoxR at h
  refine ⟨(Array.getElem?_eq_some_iff.1 h).1, ?_, ?_, ?_, ?_⟩ <;> simp [World.cell?, World.frozen?, h]

set_option maxRecDepth 100000 in
set_option maxHeartbeats 8000000 in
/-- impl.CnfOf. -/
theorem ico_any (sl : Option Addr) (cap : Nat) (sl2 : Option Addr) (cap2 : Nat) (sl3 : Option Addr) (cap3 : Nat) (rs : List LSt) (ps : List LPr) (top : Int) (ids : List Int) (w : World) (hn : rs.length ≤ 1048576) (hl : ids.length ≤ maxLen) (hz : Sts w sl rs) (hp : Prs w sl2 ps) (hw : ∀ p ∈ ps, WfP p) (hi : Ints w sl3 ids) :
    Calls Try.prog 25 #[TV sl rs.length cap sl2 ps.length cap2, .int .i64 top, .slice sl3 ids.length cap3] w fun e w' => ∃ v cs, e = .returned (.agg #[.int .i64 (cnN rs ps top ids : Nat), v]) ∧ OwC w' w.heap.size v cs ∧ bareC cs = cnA rs ps top ids ∧ Below w.heap.size w w' := by
  obtain ⟨i4, hi4, hd0, hd1, hd2⟩ := info_parts info40
  have E1 : Hid (∀ W, Below w.heap.size w W → Calls Try.prog 77 #[TV sl rs.length cap sl2 ps.length cap2, .slice sl3 ids.length cap3] W fun e w' => e = .returned (.bool (B (IdsR rs ps ids))) ∧ Below W.heap.size W w') := fun W hW => iir_any sl cap sl2 cap2 sl3 cap3 rs ps ids W hn hl (hz.below hW) (hp.below hW) hw (hi.below hW)
  have HT := Lib.hid ((TabAt.new w sl rs.length cap sl2 ps.length cap2).below (bA0 _ (.cells #[.int .i64 0, .slice none 0 0] 45)))
  have HR : Hid (BoxR ((w.alloc (.cells #[.slice sl rs.length cap, .slice sl2 ps.length cap2] 26)).alloc (.cells #[.int .i64 0, .slice none 0 0] 45)) (w.heap.size + 1)) := by
    have := new_at (w.alloc (.cells #[.slice sl rs.length cap, .slice sl2 ps.length cap2] 26)) (.cells #[.int .i64 0, .slice none 0 0] 45)
    rwa [show (w.alloc (.cells #[.slice sl rs.length cap, .slice sl2 ps.length cap2] 26)).heap.size = w.heap.size + 1 by simp] at this
  have B0 := Lib.hid (bA (bA0 w (.cells #[.slice sl rs.length cap, .slice sl2 ps.length cap2] 26)) (.cells #[.int .i64 0, .slice none 0 0] 45))
  have S0 : ((w.alloc (.cells #[.slice sl rs.length cap, .slice sl2 ps.length cap2] 26)).alloc (.cells #[.int .i64 0, .slice none 0 0] 45)).heap.size = w.heap.size + 2 := by simp
  by_cases hIR : IdsR rs ps ids
  · have IR := Lib.hid hIR
    rw [B_yes hIR] at E1
    have h400 : ids.length ≤ 400 := hIR.1
    have E2 := Lib.hid (fun W (hW : Below w.heap.size w W) => ch_any sl cap sl2 cap2 sl3 cap3 rs ps top ids W h400 (hz.below hW) hIR.2.1 (hi.below hW))
    have HP := Lib.hid hp
    have HI := Lib.hid hi
    have HW := Lib.hid hw
    have CN := Lib.hid (show cnN rs ps top ids = (plF rs top ids).length by unfold cnN; rw [if_pos (B_yes hIR)])
    have CA := Lib.hid (show cnA rs ps top ids = cnfI ps ids (nbsF 0 (ids.map (chF rs top))) by unfold cnA; rw [if_pos (B_yes hIR)])
    have PL := plF_le top ids hIR.2.1
    rw [CN.out]
    clear hIR hz hp hi hw CN
    generalize rs.length = rn at *
    generalize hPn : ps.length = pn at *
    have HPN := Lib.hid hPn
    clear hPn
    generalize hNi : ids.length = ni at *
    have HNI := Lib.hid hNi
    clear hNi
    go_enter Try.func25, Try.ntmps25
    go_wp2_with fail
    generalize (w.alloc (.cells #[.slice sl rn cap, .slice sl2 pn cap2] 26)).alloc (.cells #[.int .i64 0, .slice none 0 0] 45) = w0 at *
    refine (E1.out _ B0.out).mono ?_
    rintro e w1 ⟨rfl, b1⟩
    have D1 := Lib.hid b1
    have XT1 := HT.out.below b1
    obtain ⟨t0, t1⟩ := XT1.cells
    have tl := XT1.lt
    clear b1 XT1
    go_wp2_with fail
    refine (E2.out _ (bT B0.out D1.out)).mono ?_
    rintro e w2 ⟨bc, rows, rfl, hm, RW, b2⟩
    have HM := Lib.hid hm
    have RW2 := Lib.hid RW
    have D2 := Lib.hid (bT D1.out b2)
    have RL : rows.length = ni := by have := congrArg List.length hm; rw [List.length_map, List.length_map, HNI.out] at this; exact this
    have FR := Lib.hid (flatR_map hm)
    have hFL : (flatR rows).length ≤ 1048576 := by rw [FR.out]; omega
    have E3 := Lib.hid (vo_any (some ⟨bc, 0, none⟩) ni rows w2 (by omega) hFL RW)
    rw [RL] at E3
    clear hm RW b2 t0 t1 tl E1 E2
    go_wp2_with fail
    refine E3.out.mono ?_
    rintro e w3 ⟨vv, vs, rfl, OV, hbv, b3⟩
    have D3 := Lib.hid (bT D2.out b3)
    have RW3 := Lib.hid (RW2.out.below b3)
    have OV3 := Lib.hid (OV.mono (show w0.heap.size ≤ w2.heap.size from D2.out.size))
    have HBV := Lib.hid hbv
    have VL : vs.length = ni := by have := congrArg List.length hbv; rw [numR_len, RL] at this; simpa [bareC] using this
    obtain ⟨vsl, vcap, rfl⟩ := OV.v
    have V96 : Hid (∀ r ∈ vs, VarB r.2 ∧ r.2.length ≤ 96) := fun r hr => by
      have hm : r.2 ∈ numR rows := by rw [← hbv]; exact List.mem_map.2 ⟨r, hr, rfl⟩
      refine ⟨fun z hz => ?_, numR_row rows 96 (ch_96 top IR.out.2.1 HM.out) _ hm⟩
      have := numR_mem rows _ hm z hz
      omega
    clear OV hbv b3 RW2 E3 D1 D2
    rw [VL]
    obtain ⟨CV, hCV⟩ : ∃ c, c = vcap := ⟨_, rfl⟩
    go_wp2
    go_loopw [9, 25] (fun v i wr => ∃ (k : Nat) (ds : List LCl), i = .int .i64 k ∧ k ≤ ni ∧ Hid (OwC wr w3.heap.size v ds) ∧ ds.length ≤ k * 10000 ∧ Hid (bareC ds = ((bareC vs).take k).flatMap twoF) ∧ Hid (Below w3.heap.size w3 wr)) (fun _ i _ => ni - (intOf i).toNat)
    case atStart => exact ⟨0, [], rfl, Nat.zero_le _, OwC.nil _ _, Nat.zero_le _, rfl, Below.refl _ _⟩
    case round =>
      obtain ⟨k, ds, rfl, hk, OD, hdl, BD, HD⟩ := hrel
      have hk0 : (0 : Int) ≤ (k : Int) := by omega
      by_cases g1 : k < ni
      · have g1' : (k : Int) < (ni : Int) := by omega
        have hlt : k < vs.length := by rw [VL]; exact g1
        have OVr := OV3.out.below HD.out
        obtain ⟨sl9, cap9, e9, CL⟩ := OVr.cls
        obtain ⟨c, o, rfl, cl, hcs⟩ := CL.at hlt
        obtain ⟨rfl, rfl⟩ : vsl = some ⟨c, o, none⟩ ∧ vcap = cap9 := by cases e9; exact ⟨rfl, rfl⟩
        have hc := hcs k hlt
        have hro := OVr.each vs[k] (List.getElem_mem hlt)
        obtain ⟨s1, k1, v1, I1⟩ := own_ints hro
        rw [v1] at hc hro
        have hcap1 := own_cap hro
        obtain ⟨hVB, h96⟩ := V96.out vs[k] (List.getElem_mem hlt)
        have EN := Lib.hid (nt_any s1 k1 vs[k].2 wr (by omega) hcap1 hVB I1)
        have BS := Lib.hid (show ((bareC vs).take (k + 1)).flatMap twoF = bareC ds ++ twoF vs[k].2 by
          rw [fm_step twoF (bareC vs) k (by simpa [bareC] using hlt), BD.out]; simp [bareC])
        have T2 : (twoF vs[k].2).length ≤ 9216 := Nat.le_trans (twoF_len _) (Nat.mul_le_mul h96 h96)
        have T3 := Lib.hid (show ∀ es : List LCl, bareC es = twoF vs[k].2 → es.length ≤ 9216 from fun es he => by
          have := congrArg List.length he; rw [bareC, List.length_map] at this; omega)
        clear hcs hro v1 I1 hVB CL e9 BD OVr hcap1 T2
        generalize vs[k].2 = zs at *
        clear hlt
        generalize zs.length = nz at *
        obtain ⟨dsl, dcap, rfl⟩ := OD.out.v
        have hdc := own_cap OD.out.row
        go_wp2_with fail
        refine EN.out.mono ?_
        rintro e w4 ⟨v4, es, rfl, O4, be4, b4⟩
        have H4 := Lib.hid (bT HD.out b4)
        have OE := Lib.hid O4
        have les := T3.out es be4
        have BN : Hid (bareC (ds ++ es) = ((bareC vs).take (k + 1)).flatMap twoF) := by rw [BS.out, bareC_add, be4]; exact Lib.hid rfl
        have hs3 := HD.out.size
        obtain ⟨v9, w9, hr9, n9, grow9, hlo9⟩ := app43 OD.out b4 O4 hs3 (by omega)
        have N9 := Lib.hid n9
        have H9 := Lib.hid (H4.out.grown grow9 (by have := H4.out.size; omega) hlo9)
        have L9 : (ds ++ es).length ≤ (k + 1) * 10000 := by rw [List.length_append]; omega
        clear n9 grow9 hlo9 b4 O4 OE be4 EN OD HD H4
        generalize ds ++ es = ds9 at *
        go_wp2_with (at_builtin; refine Lib.wpList_append_run _ rfl _ _ _ _ rfl _ _ rfl rfl _ _ hr9 ?_)
        go_roundw
        case rel => exact ⟨k + 1, ds9, by go_num, by omega, N9, L9, BN, H9⟩
        case measure => simp [intOf]; omega
      · have g1' : ¬ (k : Int) < (ni : Int) := by omega
        have hdl4 : ds.length ≤ 4000000 := by omega
        have DA := Lib.hid (bT D3.out HD.out)
        have XT := HT.out.below DA.out
        obtain ⟨t0, t1⟩ := XT.cells
        have tl := XT.lt
        have hs3 := HD.out.size
        have hs0 := D3.out.size
        have BT := Lib.hid (show bareC ds = (numR rows).flatMap twoF by rw [BD.out, HBV.out, List.take_of_length_le (by rw [numR_len, RL]; omega)])
        obtain ⟨sl8, cap8, e8, CL8⟩ := (OV3.out.below HD.out).cls
        obtain ⟨rfl, rfl⟩ : vsl = sl8 ∧ vcap = cap8 := by cases e8; exact ⟨rfl, rfl⟩
        have E5 := Lib.hid (nb_any sl rn cap sl2 cap2 sl3 cap3 bc ni vsl vcap rs ps ids rows vs wr IR.out.2.1 (HP.out.below (bT B0.out DA.out)) HW.out (HI.out.below (bT B0.out DA.out)) (by rw [HNI.out]; exact h400) (idsR_rise IR.out) (by rw [RL, HNI.out]) (RW3.out.below HD.out) CL8 HBV.out (ch_small top IR.out HM.out) (fun r hr => (V96.out r hr).1) (ch_96 top IR.out.2.1 HM.out))
        rw [HPN.out, HNI.out, RL, VL] at E5
        obtain ⟨dsl, dcap, rfl⟩ := OD.out.v
        clear XT BD CL8 e8 hFL
        go_wp2_with fail
        refine E5.out.mono ?_
        rintro e w5 ⟨v5, es, rfl, O5, be5, les, b5⟩
        have H5 := Lib.hid (bT HD.out b5)
        obtain ⟨v6, w6, hr6, o6, grow6, hlo6⟩ := app43 OD.out b5 O5 hs3 (by omega)
        have O6 := Lib.hid o6
        have H6 := Lib.hid (H5.out.grown grow6 (by have := H5.out.size; omega) hlo6)
        have L6 : (ds ++ es).length ≤ 4400000 := by rw [List.length_append]; omega
        have B6 := Lib.hid (show bareC (ds ++ es) = (numR rows).flatMap twoF ++ ps.flatMap (besI ps ids (nbsF 0 (rows.map fun r => r.2))) by rw [bareC_add, BT.out, be5])
        clear o6 grow6 hlo6 b5 O5 be5 OD HD H5 BT E5 t0 t1 tl
        generalize ds ++ es = cs6 at *
        obtain ⟨s6, c6, rfl⟩ := O6.out.v
        obtain ⟨sl8, cap8, e8, CL8⟩ := (OV3.out.below H6.out).cls
        obtain ⟨rfl, rfl⟩ : vsl = sl8 ∧ vcap = cap8 := by cases e8; exact ⟨rfl, rfl⟩
        have FV := Lib.hid (show (flatC vs).length = (plF rs top ids).length by rw [flatC_bare, HBV.out, numR_flat, FR.out])
        have E7 := Lib.hid (catZ_any vsl vcap vs w6 (by omega) (by rw [FV.out]; omega) CL8)
        rw [VL, FV.out] at E7
        clear CL8 e8
        generalize hPF : (plF rs top ids).length = pf at *
        have HPF := Lib.hid hPF
        clear hPF
        go_wp2_with (first | (at_builtin; refine Lib.wpList_append_run _ rfl _ _ _ _ rfl _ _ rfl rfl _ _ hr6 ?_))
        refine E7.out.mono ?_
        rintro e w7 ⟨v7, rfl, o7, b7⟩
        obtain ⟨s7, c7, rfl⟩ := own_v o7
        have H7 := Lib.hid (bT H6.out b7)
        obtain ⟨v9, w9, hr9, o9, grow9, hlo9⟩ := app43 OV3.out H7.out (O6.out.below b7) hs0 (by omega)
        rw [VL] at hr9 grow9 hlo9
        obtain ⟨s9, c9, e9⟩ := o9.v
        generalize (vs ++ cs6).length = n9 at *
        subst e9
        have H9 := Lib.hid ((bT D3.out H7.out).grown grow9 (by have := (bT D3.out H7.out).size; omega) hlo9)
        obtain ⟨rl, r0, r1, f0, f1⟩ := BoxR.facts (show BoxR w9 (w.heap.size + 1) from (H9.out.block _ (by omega)).trans HR.out)
        have P : Hid (OwC ((w9.setCell ⟨w.heap.size + 1, 0, none⟩ (.int .i64 (pf : Nat))).setCell ⟨w.heap.size + 1, 1, none⟩ (.slice s9 n9 c9)) w.heap.size (.slice s9 n9 c9) (vs ++ cs6) ∧ bareC (vs ++ cs6) = cnA rs ps top ids ∧ Below w.heap.size w ((w9.setCell ⟨w.heap.size + 1, 0, none⟩ (.int .i64 (pf : Nat))).setCell ⟨w.heap.size + 1, 1, none⟩ (.slice s9 n9 c9))) := by
          refine ⟨((o9.set (by omega) _ _).set (by omega) _ _).mono (by omega), ?_, (((B0.out.trans (H9.out.mono (by omega)))).setCell (Nat.le_add_right _ 1) _).setCell (Nat.le_add_right _ 1) _⟩
          rw [bareC_add, B6.out, HBV.out, CA.out, HM.out]
          unfold cnfI numR
          rw [HM.out, List.flatMap_map]
        clear o9 grow9 hlo9 b7 o7 E7 H9 H7 O6 H6 OV3
        go_wp2_with (first | (at_builtin; refine Lib.wpList_append_run _ rfl _ _ _ _ rfl _ _ rfl rfl _ _ hr9 ?_))
        refine bodyPost_ret (v := .agg #[.int .i64 (pf : Nat), .slice s9 n9 c9]) (by simp [results, Try.results25, go_sem, r0, r1]) rfl ⟨_, vs ++ cs6, by rw [HPF.out], P.out⟩
  · rw [B_no hIR] at E1
    have CN := Lib.hid (show cnN rs ps top ids = 0 by unfold cnN; rw [if_neg (by rw [B_no hIR]; simp)])
    have CA := Lib.hid (show cnA rs ps top ids = [] by unfold cnA; rw [if_neg (by rw [B_no hIR]; simp)])
    rw [CN.out, CA.out]
    clear hIR hz hp hi hw CN CA
    generalize rs.length = rn at *
    generalize ps.length = pn at *
    generalize ids.length = ni at *
    go_enter Try.func25, Try.ntmps25
    go_wp2_with fail
    generalize (w.alloc (.cells #[.slice sl rn cap, .slice sl2 pn cap2] 26)).alloc (.cells #[.int .i64 0, .slice none 0 0] 45) = w0 at *
    refine (E1.out _ B0.out).mono ?_
    rintro e w1 ⟨rfl, b1⟩
    have D1 := Lib.hid (bT B0.out b1)
    obtain ⟨rl, r0, r1, f0, f1⟩ := BoxR.facts (show BoxR w1 (w.heap.size + 1) from (b1.block _ (by omega)).trans HR.out)
    have P : Hid (Below w.heap.size w ((w1.setCell ⟨w.heap.size + 1, 0, none⟩ (.int .i64 0)).setCell ⟨w.heap.size + 1, 1, none⟩ (.slice none 0 0))) := (D1.out.setCell (Nat.le_add_right _ 1) _).setCell (Nat.le_add_right _ 1) _
    clear b1 E1 HT HR
    go_wp2
    refine bodyPost_ret (v := .agg #[.int .i64 0, .slice none 0 0]) (by simp [results, Try.results25, go_sem, r0, r1]) rfl ⟨_, [], rfl, OwC.nil _ _, rfl, P.out⟩
end Go.Proofs.Ytdmfljejlhlbnaa
