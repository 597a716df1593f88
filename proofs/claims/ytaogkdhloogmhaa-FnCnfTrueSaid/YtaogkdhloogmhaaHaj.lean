/-
  THE CLAUSES OF A TABLE as the program makes them: impl.CnfOf.
  CLAUSES THAT GROW IN A BOX, as the model makes them; markCnf, heldCnf.
  THE CLAUSES BY THE VARIABLES, step by step.
  A PLACE AMONG PLACES, as lists: where it goes, and that a plan stays right just if it may stand beside all others.
  THE LAWS' CLAUSES copied into a Cnf; are clauses right? As both sides answer it.
  ARE CLAUSES RIGHT? The model's answer.
  ARE CLAUSES RIGHT? The model's answer is the program's.
-/
import Derived.Test.YtaogkdhloogmhaaHai
import Derived.Test.YtaogkdhloogmhaaHah
import Derived.Test.YtaogkdhloogmhaaHaf
import Derived.Test.YtaogkdhloogmhaaHag
import Derived.Test.YtaogkdhloogmhaaHaa
import Derived.Test.YtaogkdhloogmhaaHab
import Derived.BigQuiet
import Derived.OpenShut
namespace Go.Proofs.Ytaogkdhloogmhaa
open Go.RowKit
set_option linter.unusedVariables false

/-- The result's box, before it is filled. -/
def BoxR (w : World) (b : Nat) : Prop := w.heap[b]? = some (.cells #[.int .i64 0, .slice none 0 0] 33)
theorem BoxR.facts {w : World} {b : Nat} (h : BoxR w b) : b < w.heap.size ∧ w.cell? ⟨b, 0, none⟩ = some (.int .i64 0) ∧ w.cell? ⟨b, 1, none⟩ = some (.slice none 0 0) ∧ w.frozen? ⟨b, 0, none⟩ = false ∧ w.frozen? ⟨b, 1, none⟩ = false := by
  unfold BoxR at h
  refine ⟨(Array.getElem?_eq_some_iff.1 h).1, ?_, ?_, ?_, ?_⟩ <;> simp [World.cell?, World.frozen?, h]

set_option maxRecDepth 100000 in
set_option maxHeartbeats 8000000 in
/-- impl.CnfOf. -/
theorem ico_any (sl : Option Addr) (cap : Nat) (sl2 : Option Addr) (cap2 : Nat) (sl3 : Option Addr) (cap3 : Nat) (rs : List LSt) (ps : List LPr) (top : Int) (ids : List Int) (w : World) (hn : rs.length ≤ 1048576) (hl : ids.length ≤ maxLen) (hz : Sts w sl rs) (hp : Prs w sl2 ps) (hw : ∀ p ∈ ps, WfP p) (hi : Ints w sl3 ids) :
    Calls Try.prog 6 #[TV sl rs.length cap sl2 ps.length cap2, .int .i64 top, .slice sl3 ids.length cap3] w fun e w' => ∃ v cs, e = .returned (.agg #[.int .i64 (cnN rs ps top ids : Nat), v]) ∧ OwC w' w.heap.size v cs ∧ bareC cs = cnA rs ps top ids ∧ Below w.heap.size w w' := by
  obtain ⟨i4, hi4, hd0, hd1, hd2⟩ := info_parts info40
  have E1 : Hid (∀ W, Below w.heap.size w W → Calls Try.prog 24 #[TV sl rs.length cap sl2 ps.length cap2, .slice sl3 ids.length cap3] W fun e w' => e = .returned (.bool (B (IdsR rs ps ids))) ∧ Below W.heap.size W w') := fun W hW => iir_any sl cap sl2 cap2 sl3 cap3 rs ps ids W hn hl (hz.below hW) (hp.below hW) hw (hi.below hW)
  have HT := Lib.hid ((TabAt.new w sl rs.length cap sl2 ps.length cap2).below (bA0 _ (.cells #[.int .i64 0, .slice none 0 0] 33)))
  have HR : Hid (BoxR ((w.alloc (.cells #[.slice sl rs.length cap, .slice sl2 ps.length cap2] 26)).alloc (.cells #[.int .i64 0, .slice none 0 0] 33)) (w.heap.size + 1)) := by
    have := new_at (w.alloc (.cells #[.slice sl rs.length cap, .slice sl2 ps.length cap2] 26)) (.cells #[.int .i64 0, .slice none 0 0] 33)
    rwa [show (w.alloc (.cells #[.slice sl rs.length cap, .slice sl2 ps.length cap2] 26)).heap.size = w.heap.size + 1 by simp] at this
  have B0 := Lib.hid (bA (bA0 w (.cells #[.slice sl rs.length cap, .slice sl2 ps.length cap2] 26)) (.cells #[.int .i64 0, .slice none 0 0] 33))
  have S0 : ((w.alloc (.cells #[.slice sl rs.length cap, .slice sl2 ps.length cap2] 26)).alloc (.cells #[.int .i64 0, .slice none 0 0] 33)).heap.size = w.heap.size + 2 := by simp
  by_cases hIR : IdsR rs ps ids
  · have IR := Lib.hid hIR
    rw [B_yes hIR] at E1
    have h400 : ids.length ≤ 400 := hIR.1
    have E2 := Lib.hid (fun W (hW : Below w.heap.size w W) => ch_any sl cap sl2 cap2 sl3 cap3 rs ps top ids W h400 (hz.below hW) hIR.2.1 (hi.below hW))
    have HP := Lib.hid hp
    have HI := Lib.hid hi
    have HW := Lib.hid hw
    have CN := Lib.hid (show cnN rs ps top ids = (plF rs top ids).length by unfold cnN; rw [if_pos (B_yes hIR)])
    have CA := Lib.hid (show cnA rs ps top ids = cnfI ps ids (nbsF 0 (ids.map (chF rs top))) by unfold cnA; rw [if_pos (B_yes hIR)])
    have PL := plF_le top ids hIR.2.1
    rw [CN.out]
    clear hIR hz hp hi hw CN
    generalize rs.length = rn at *
    generalize hPn : ps.length = pn at *
    have HPN := Lib.hid hPn
    clear hPn
    generalize hNi : ids.length = ni at *
    have HNI := Lib.hid hNi
    clear hNi
    go_enter Try.func6, Try.ntmps6
    go_wp2_with fail
    generalize (w.alloc (.cells #[.slice sl rn cap, .slice sl2 pn cap2] 26)).alloc (.cells #[.int .i64 0, .slice none 0 0] 33) = w0 at *
    refine (E1.out _ B0.out).mono ?_
    rintro e w1 ⟨rfl, b1⟩
    have D1 := Lib.hid b1
    have XT1 := HT.out.below b1
    obtain ⟨t0, t1⟩ := XT1.cells
    have tl := XT1.lt
    clear b1 XT1
    go_wp2_with fail
    refine (E2.out _ (bT B0.out D1.out)).mono ?_
    rintro e w2 ⟨bc, rows, rfl, hm, RW, b2⟩
    have HM := Lib.hid hm
    have RW2 := Lib.hid RW
    have D2 := Lib.hid (bT D1.out b2)
    have RL : rows.length = ni := by have := congrArg List.length hm; rw [List.length_map, List.length_map, HNI.out] at this; exact this
    have FR := Lib.hid (flatR_map hm)
    have hFL : (flatR rows).length ≤ 1048576 := by rw [FR.out]; omega
    have E3 := Lib.hid (vo_any (some ⟨bc, 0, none⟩) ni rows w2 (by omega) hFL RW)
    rw [RL] at E3
    clear hm RW b2 t0 t1 tl E1 E2
    go_wp2_with fail
    refine E3.out.mono ?_
    rintro e w3 ⟨vv, vs, rfl, OV, hbv, b3⟩
    have D3 := Lib.hid (bT D2.out b3)
    have RW3 := Lib.hid (RW2.out.below b3)
    have OV3 := Lib.hid (OV.mono (show w0.heap.size ≤ w2.heap.size from D2.out.size))
    have HBV := Lib.hid hbv
    have VL : vs.length = ni := by have := congrArg List.length hbv; rw [numR_len, RL] at this; simpa [bareC] using this
    obtain ⟨vsl, vcap, rfl⟩ := OV.v
    have V96 : Hid (∀ r ∈ vs, VarB r.2 ∧ r.2.length ≤ 96) := fun r hr => by
      have hm : r.2 ∈ numR rows := by rw [← hbv]; exact List.mem_map.2 ⟨r, hr, rfl⟩
      refine ⟨fun z hz => ?_, numR_row rows 96 (ch_96 top IR.out.2.1 HM.out) _ hm⟩
      have := numR_mem rows _ hm z hz
      omega
    clear OV hbv b3 RW2 E3 D1 D2
    rw [VL]
    obtain ⟨CV, hCV⟩ : ∃ c, c = vcap := ⟨_, rfl⟩
    go_wp2
    go_loopw [9, 25] (fun v i wr => ∃ (k : Nat) (ds : List LCl), i = .int .i64 k ∧ k ≤ ni ∧ Hid (OwC wr w3.heap.size v ds) ∧ ds.length ≤ k * 10000 ∧ Hid (bareC ds = ((bareC vs).take k).flatMap twoF) ∧ Hid (Below w3.heap.size w3 wr)) (fun _ i _ => ni - (intOf i).toNat)
    case atStart => exact ⟨0, [], rfl, Nat.zero_le _, OwC.nil _ _, Nat.zero_le _, rfl, Below.refl _ _⟩
    case round =>
      obtain ⟨k, ds, rfl, hk, OD, hdl, BD, HD⟩ := hrel
      have hk0 : (0 : Int) ≤ (k : Int) := by omega
      by_cases g1 : k < ni
      · have g1' : (k : Int) < (ni : Int) := by omega
        have hlt : k < vs.length := by rw [VL]; exact g1
        have OVr := OV3.out.below HD.out
        obtain ⟨sl9, cap9, e9, CL⟩ := OVr.cls
        obtain ⟨c, o, rfl, cl, hcs⟩ := CL.at hlt
        obtain ⟨rfl, rfl⟩ : vsl = some ⟨c, o, none⟩ ∧ vcap = cap9 := by cases e9; exact ⟨rfl, rfl⟩
        have hc := hcs k hlt
        have hro := OVr.each vs[k] (List.getElem_mem hlt)
        obtain ⟨s1, k1, v1, I1⟩ := own_ints hro
        rw [v1] at hc hro
        have hcap1 := own_cap hro
        obtain ⟨hVB, h96⟩ := V96.out vs[k] (List.getElem_mem hlt)
        have EN := Lib.hid (nt_any s1 k1 vs[k].2 wr (by omega) hcap1 hVB I1)
        have BS := Lib.hid (show ((bareC vs).take (k + 1)).flatMap twoF = bareC ds ++ twoF vs[k].2 by
          rw [fm_step twoF (bareC vs) k (by simpa [bareC] using hlt), BD.out]; simp [bareC])
        have T2 : (twoF vs[k].2).length ≤ 9216 := Nat.le_trans (twoF_len _) (Nat.mul_le_mul h96 h96)
        have T3 := Lib.hid (show ∀ es : List LCl, bareC es = twoF vs[k].2 → es.length ≤ 9216 from fun es he => by
          have := congrArg List.length he; rw [bareC, List.length_map] at this; omega)
        clear hcs hro v1 I1 hVB CL e9 BD OVr hcap1 T2
        generalize vs[k].2 = zs at *
        clear hlt
        generalize zs.length = nz at *
        obtain ⟨dsl, dcap, rfl⟩ := OD.out.v
        have hdc := own_cap OD.out.row
        go_wp2_with fail
        refine EN.out.mono ?_
        rintro e w4 ⟨v4, es, rfl, O4, be4, b4⟩
        have H4 := Lib.hid (bT HD.out b4)
        have OE := Lib.hid O4
        have les := T3.out es be4
        have BN : Hid (bareC (ds ++ es) = ((bareC vs).take (k + 1)).flatMap twoF) := by rw [BS.out, bareC_add, be4]; exact Lib.hid rfl
        have hs3 := HD.out.size
        obtain ⟨v9, w9, hr9, n9, grow9, hlo9⟩ := app43 OD.out b4 O4 hs3 (by omega)
        have N9 := Lib.hid n9
        have H9 := Lib.hid (H4.out.grown grow9 (by have := H4.out.size; omega) hlo9)
        have L9 : (ds ++ es).length ≤ (k + 1) * 10000 := by rw [List.length_append]; omega
        clear n9 grow9 hlo9 b4 O4 OE be4 EN OD HD H4
        generalize ds ++ es = ds9 at *
        go_wp2_with (at_builtin; refine Lib.wpList_append_run _ rfl _ _ _ _ rfl _ _ rfl rfl _ _ hr9 ?_)
        go_roundw
        case rel => exact ⟨k + 1, ds9, by go_num, by omega, N9, L9, BN, H9⟩
        case measure => simp [intOf]; omega
      · have g1' : ¬ (k : Int) < (ni : Int) := by omega
        have hdl4 : ds.length ≤ 4000000 := by omega
        have DA := Lib.hid (bT D3.out HD.out)
        have XT := HT.out.below DA.out
        obtain ⟨t0, t1⟩ := XT.cells
        have tl := XT.lt
        have hs3 := HD.out.size
        have hs0 := D3.out.size
        have BT := Lib.hid (show bareC ds = (numR rows).flatMap twoF by rw [BD.out, HBV.out, List.take_of_length_le (by rw [numR_len, RL]; omega)])
        obtain ⟨sl8, cap8, e8, CL8⟩ := (OV3.out.below HD.out).cls
        obtain ⟨rfl, rfl⟩ : vsl = sl8 ∧ vcap = cap8 := by cases e8; exact ⟨rfl, rfl⟩
        have E5 := Lib.hid (nb_any sl rn cap sl2 cap2 sl3 cap3 bc ni vsl vcap rs ps ids rows vs wr IR.out.2.1 (HP.out.below (bT B0.out DA.out)) HW.out (HI.out.below (bT B0.out DA.out)) (by rw [HNI.out]; exact h400) (idsR_rise IR.out) (by rw [RL, HNI.out]) (RW3.out.below HD.out) CL8 HBV.out (ch_small top IR.out HM.out) (fun r hr => (V96.out r hr).1) (ch_96 top IR.out.2.1 HM.out))
        rw [HPN.out, HNI.out, RL, VL] at E5
        obtain ⟨dsl, dcap, rfl⟩ := OD.out.v
        clear XT BD CL8 e8 hFL
        go_wp2_with fail
        refine E5.out.mono ?_
        rintro e w5 ⟨v5, es, rfl, O5, be5, les, b5⟩
        have H5 := Lib.hid (bT HD.out b5)
        obtain ⟨v6, w6, hr6, o6, grow6, hlo6⟩ := app43 OD.out b5 O5 hs3 (by omega)
        have O6 := Lib.hid o6
        have H6 := Lib.hid (H5.out.grown grow6 (by have := H5.out.size; omega) hlo6)
        have L6 : (ds ++ es).length ≤ 4400000 := by rw [List.length_append]; omega
        have B6 := Lib.hid (show bareC (ds ++ es) = (numR rows).flatMap twoF ++ ps.flatMap (besI ps ids (nbsF 0 (rows.map fun r => r.2))) by rw [bareC_add, BT.out, be5])
        clear o6 grow6 hlo6 b5 O5 be5 OD HD H5 BT E5 t0 t1 tl
        generalize ds ++ es = cs6 at *
        obtain ⟨s6, c6, rfl⟩ := O6.out.v
        obtain ⟨sl8, cap8, e8, CL8⟩ := (OV3.out.below H6.out).cls
        obtain ⟨rfl, rfl⟩ : vsl = sl8 ∧ vcap = cap8 := by cases e8; exact ⟨rfl, rfl⟩
        have FV := Lib.hid (show (flatC vs).length = (plF rs top ids).length by rw [flatC_bare, HBV.out, numR_flat, FR.out])
        have E7 := Lib.hid (catZ_any vsl vcap vs w6 (by omega) (by rw [FV.out]; omega) CL8)
        rw [VL, FV.out] at E7
        clear CL8 e8
        generalize hPF : (plF rs top ids).length = pf at *
        have HPF := Lib.hid hPF
        clear hPF
        go_wp2_with (first | (at_builtin; refine Lib.wpList_append_run _ rfl _ _ _ _ rfl _ _ rfl rfl _ _ hr6 ?_))
        refine E7.out.mono ?_
        rintro e w7 ⟨v7, rfl, o7, b7⟩
        obtain ⟨s7, c7, rfl⟩ := own_v o7
        have H7 := Lib.hid (bT H6.out b7)
        obtain ⟨v9, w9, hr9, o9, grow9, hlo9⟩ := app43 OV3.out H7.out (O6.out.below b7) hs0 (by omega)
        rw [VL] at hr9 grow9 hlo9
        obtain ⟨s9, c9, e9⟩ := o9.v
        generalize (vs ++ cs6).length = n9 at *
        subst e9
        have H9 := Lib.hid ((bT D3.out H7.out).grown grow9 (by have := (bT D3.out H7.out).size; omega) hlo9)
        obtain ⟨rl, r0, r1, f0, f1⟩ := BoxR.facts (show BoxR w9 (w.heap.size + 1) from (H9.out.block _ (by omega)).trans HR.out)
        have P : Hid (OwC ((w9.setCell ⟨w.heap.size + 1, 0, none⟩ (.int .i64 (pf : Nat))).setCell ⟨w.heap.size + 1, 1, none⟩ (.slice s9 n9 c9)) w.heap.size (.slice s9 n9 c9) (vs ++ cs6) ∧ bareC (vs ++ cs6) = cnA rs ps top ids ∧ Below w.heap.size w ((w9.setCell ⟨w.heap.size + 1, 0, none⟩ (.int .i64 (pf : Nat))).setCell ⟨w.heap.size + 1, 1, none⟩ (.slice s9 n9 c9))) := by
          refine ⟨((o9.set (by omega) _ _).set (by omega) _ _).mono (by omega), ?_, (((B0.out.trans (H9.out.mono (by omega)))).setCell (Nat.le_add_right _ 1) _).setCell (Nat.le_add_right _ 1) _⟩
          rw [bareC_add, B6.out, HBV.out, CA.out, HM.out]
          unfold cnfI numR
          rw [HM.out, List.flatMap_map]
        clear o9 grow9 hlo9 b7 o7 E7 H9 H7 O6 H6 OV3
        go_wp2_with (first | (at_builtin; refine Lib.wpList_append_run _ rfl _ _ _ _ rfl _ _ rfl rfl _ _ hr9 ?_))
        refine bodyPost_ret (v := .agg #[.int .i64 (pf : Nat), .slice s9 n9 c9]) (by simp [results, Try.results6, go_sem, r0, r1]) rfl ⟨_, vs ++ cs6, by rw [HPF.out], P.out⟩
  · rw [B_no hIR] at E1
    have CN := Lib.hid (show cnN rs ps top ids = 0 by unfold cnN; rw [if_neg (by rw [B_no hIR]; simp)])
    have CA := Lib.hid (show cnA rs ps top ids = [] by unfold cnA; rw [if_neg (by rw [B_no hIR]; simp)])
    rw [CN.out, CA.out]
    clear hIR hz hp hi hw CN CA
    generalize rs.length = rn at *
    generalize ps.length = pn at *
    generalize ids.length = ni at *
    go_enter Try.func6, Try.ntmps6
    go_wp2_with fail
    generalize (w.alloc (.cells #[.slice sl rn cap, .slice sl2 pn cap2] 26)).alloc (.cells #[.int .i64 0, .slice none 0 0] 33) = w0 at *
    refine (E1.out _ B0.out).mono ?_
    rintro e w1 ⟨rfl, b1⟩
    have D1 := Lib.hid (bT B0.out b1)
    obtain ⟨rl, r0, r1, f0, f1⟩ := BoxR.facts (show BoxR w1 (w.heap.size + 1) from (b1.block _ (by omega)).trans HR.out)
    have P : Hid (Below w.heap.size w ((w1.setCell ⟨w.heap.size + 1, 0, none⟩ (.int .i64 0)).setCell ⟨w.heap.size + 1, 1, none⟩ (.slice none 0 0))) := (D1.out.setCell (Nat.le_add_right _ 1) _).setCell (Nat.le_add_right _ 1) _
    clear b1 E1 HT HR
    go_wp2
    refine bodyPost_ret (v := .agg #[.int .i64 0, .slice none 0 0]) (by simp [results, Try.results6, go_sem, r0, r1]) rfl ⟨_, [], rfl, OwC.nil _ _, rfl, P.out⟩
end Go.Proofs.Ytaogkdhloogmhaa
namespace Go.Proofs.Ytaogkdhloogmhaa
open Go.RowKit
set_option linter.unusedVariables false

/-- The clauses stand in the box bx; below wB nothing else has turned. -/
structure SpS (w wB : World) (bx : Nat) (nv : Int) (wq : World) (v : Value) (cs : List LCl) : Prop where
  h1 : w.heap.size ≤ bx
  h2 : bx < wB.heap.size
  box : wq.heap[bx]? = some (.cells #[.int .i64 nv, v] 33)
  own : OwC wq wB.heap.size v cs
  kp : Kp1 bx wB.heap.size wB wq
  bel : Below w.heap.size w wq
theorem SpS.lt {w wB wq : World} {bx : Nat} {nv : Int} {v : Value} {cs : List LCl} (h : SpS w wB bx nv wq v cs) : bx < wq.heap.size := (Array.getElem?_eq_some_iff.1 h.box).1
theorem SpS.le {w wB wq : World} {bx : Nat} {nv : Int} {v : Value} {cs : List LCl} (h : SpS w wB bx nv wq v cs) : wB.heap.size ≤ wq.heap.size := h.kp.1
theorem SpS.cell {w wB wq : World} {bx : Nat} {nv : Int} {v : Value} {cs : List LCl} (h : SpS w wB bx nv wq v cs) : wq.cell? ⟨bx, 0, none⟩ = some (.int .i64 nv) ∧ wq.cell? ⟨bx, 1, none⟩ = some v ∧ wq.frozen? ⟨bx, 1, none⟩ = false := by
  have := h.box
  refine ⟨?_, ?_, ?_⟩ <;> simp [World.cell?, World.frozen?, this]
theorem SpS.below {w wB wq wq' : World} {bx : Nat} {nv : Int} {v : Value} {cs : List LCl} (h : SpS w wB bx nv wq v cs) (hb : Below wq.heap.size wq wq') : SpS w wB bx nv wq' v cs :=
  ⟨h.h1, h.h2, (hb.block bx h.lt).trans h.box, h.own.below hb, h.kp.trans (Kp1.of (hb.mono h.le)), bT h.bel hb⟩
theorem SpS.drew {w wB wq : World} {bx : Nat} {nv : Int} {v : Value} {cs : List LCl} (h : SpS w wB bx nv wq v cs) : SpS w wB bx nv wq.drew v cs := h.below (Below.refl _ _).drew
/-- What stands below, but the box, stays. -/
theorem SpS.old {w wB wq : World} {bx : Nat} {nv : Int} {v : Value} {cs : List LCl} (h : SpS w wB bx nv wq v cs) {c : Nat} (hc : c < wB.heap.size) (hb : c ≠ bx) (o : Nat) : c < wq.heap.size ∧ wq.cell? ⟨c, o, none⟩ = wB.cell? ⟨c, o, none⟩ := ⟨Nat.lt_of_lt_of_le hc h.le, h.kp.cell hc hb⟩
theorem SpS.far {w wB wq wa w9 : World} {bx : Nat} {nv : Int} {v : Value} {cs : List LCl} (h : SpS w wB bx nv wq v cs) (hb : Below wq.heap.size wq wa) (hg : wa.grownBy w9 v.ownBlock) : w9.heap[bx]? = some (.cells #[.int .i64 nv, v] 33) := blk_kept h.own h.box (by decide) hb hg
/-- The world behind the append, before the store. -/
theorem SpS.mid {w wB wq wa w9 : World} {bx : Nat} {nv : Int} {v : Value} {cs : List LCl} (h : SpS w wB bx nv wq v cs) (hb : Below wq.heap.size wq wa) (hg : wa.grownBy w9 v.ownBlock) : bx < w9.heap.size ∧ w9.cell? ⟨bx, 1, none⟩ = some v ∧ w9.frozen? ⟨bx, 1, none⟩ = false := by
  have e := h.far hb hg
  refine ⟨(Array.getElem?_eq_some_iff.1 e).1, ?_, ?_⟩ <;> simp [World.cell?, World.frozen?, e]
theorem SpS.add {w wB wq wa w9 : World} {bx : Nat} {nv : Int} {v v9 : Value} {cs : List LCl} {r : LCl} (h : SpS w wB bx nv wq v cs) (hb : Below wq.heap.size wq wa) (hr : wa.ownsRow wB.heap.size 2 1 r.1 r.2.length (valsZ r.2)) (hf : ∀ j, r.1.ownBlock = some j → wq.heap.size ≤ j) (hg : wa.grownBy w9 v.ownBlock) (own9 : w9.ownsRow wB.heap.size 27 1 v9 (cs.length + 1) (hdC cs ++ [r.1])) : SpS w wB bx nv (w9.setCell ⟨bx, 1, none⟩ v9) v9 (cs ++ [r]) := by
  have hlo : ∀ j, v.ownBlock = some j → wB.heap.size ≤ j := fun j hj => (h.own.row.lt j hj).1
  have hs := h.le
  have hs2 := hb.size
  have hw := h.bel.size
  have b9 : Below wB.heap.size wa w9 := (Below.refl _ _).grown hg (by omega) hlo
  refine ⟨h.h1, h.h2, ?_, (h.own.new hb hr hf hg own9).set h.h2 _ _, ?_, ?_⟩
  · exact heap_setCell_same w9 bx 1 _ 33 v9 (h.far hb hg)
  · exact (((h.kp.trans (Kp1.of (hb.mono h.le))).trans (Kp1.of b9))).set 1 v9
  · exact (((bT h.bel hb).grown hg (by omega) (fun j hj => by have := hlo j hj; have := h.h1; have := h.h2; omega))).setCell h.h1 _
/-- Another block made since stays, too. -/
theorem SpS.blk {w wB wq wa w9 : World} {bx : Nat} {nv : Int} {v v9 : Value} {cs : List LCl} (h : SpS w wB bx nv wq v cs) (hb : Below wq.heap.size wq wa) (hg : wa.grownBy w9 v.ownBlock) {b : Nat} {us : Array Value} {t : TypeId} (hh : wq.heap[b]? = some (.cells us t)) (ht : t ≠ 27) (hne : b ≠ bx) : (w9.setCell ⟨bx, 1, none⟩ v9).heap[b]? = some (.cells us t) :=
  (Below.heap_setCell _ _ _ _ hne).trans (blk_kept h.own hh ht hb hg)
theorem SpS.v {w wB wq : World} {bx : Nat} {nv : Int} {v : Value} {cs : List LCl} (h : SpS w wB bx nv wq v cs) : ∃ sl cap, v = .slice sl cs.length cap := h.own.v

end Go.Proofs.Ytaogkdhloogmhaa
namespace Go.Proofs.Ytaogkdhloogmhaa
open Go.RowKit
set_option linter.unusedVariables false

def ownL (id : Int) (V : List LPl) (m : Nat) : List Int := (ofId id ((nbF 0 V).take m)).map fun e => e.2
def ownA (V : List LPl) (id : Int) : List Int := (ofId id (nbF 0 V)).map fun e => e.2
theorem nb_take (V : List LPl) (m : Nat) (h : m < V.length) : (nbF 0 V).take (m + 1) = (nbF 0 V).take m ++ [(V[m], (m : Int) + 1)] := by
  have hl : m < (nbF 0 V).length := by rw [nbF_len]; exact h
  rw [List.take_succ_eq_append_getElem hl, nbF_at V 0 m h]
  simp
theorem ofId_one (id : Int) (e : LNb) : ofId id [e] = if e.1.1 = id then [e] else [] := by
  by_cases h : e.1.1 = id <;> simp [ofId, h]
theorem ownL_step (id : Int) (V : List LPl) (m : Nat) (h : m < V.length) : ownL id V (m + 1) = ownL id V m ++ if V[m].1 = id then [(m : Int) + 1] else [] := by
  unfold ownL
  rw [nb_take V m h, ofId_append, List.map_append, ofId_one]
  by_cases h : V[m].1 = id <;> simp [h]
theorem ownL_zero (id : Int) (V : List LPl) : ownL id V 0 = [] := by simp [ownL, ofId]
theorem ownL_all (id : Int) (V : List LPl) (m : Nat) (h : V.length ≤ m) : ownL id V m = ownA V id := by
  unfold ownL ownA; rw [List.take_of_length_le (by rw [nbF_len]; exact h)]
/-- The clauses of variable a, with the next m. -/
def twoL (V : List LPl) (a m : Nat) (x : Int) : List (List Int) := (ofId x (((nbF 0 V).drop (a + 1)).take m)).map fun y => [-(a : Int) - 1, -y.2]
theorem twoL_zero (V : List LPl) (a : Nat) (x : Int) : twoL V a 0 x = [] := by simp [twoL, ofId]
theorem twoL_step (V : List LPl) (a m : Nat) (x : Int) (h : a + 1 + m < V.length) : twoL V a (m + 1) x = twoL V a m x ++ if V[a + 1 + m].1 = x then [[-(a : Int) - 1, -((a + 1 + m : Nat) : Int) - 1]] else [] := by
  unfold twoL
  have hl : m < ((nbF 0 V).drop (a + 1)).length := by rw [List.length_drop, nbF_len]; omega
  rw [List.take_succ_eq_append_getElem hl, ofId_append, List.map_append, List.getElem_drop, nbF_at V 0 (a + 1 + m) h, ofId_one]
  by_cases g : V[a + 1 + m].1 = x
  · simp [g]; omega
  · simp [g]
theorem twoL_step' (V : List LPl) (a b : Nat) (x : Int) (h1 : a + 1 ≤ b) (h : b < V.length) : twoL V a (b + 1 - (a + 1)) x = twoL V a (b - (a + 1)) x ++ if V[b].1 = x then [[-(a : Int) - 1, -(b : Int) - 1]] else [] := by
  obtain ⟨m, rfl⟩ := Nat.exists_eq_add_of_le h1
  have := twoL_step V a m x h
  rw [show a + 1 + m + 1 - (a + 1) = m + 1 by omega, show a + 1 + m - (a + 1) = m by omega]
  exact this
theorem twoS_at (V : List LPl) (a : Nat) (h : a < V.length) (m : Nat) (hm : V.length ≤ a + 1 + m) : twoS ((nbF 0 V).drop a) = twoL V a m V[a].1 ++ twoS ((nbF 0 V).drop (a + 1)) := by
  have hl : a < (nbF 0 V).length := by rw [nbF_len]; exact h
  rw [← List.getElem_cons_drop (h := hl), twoS, nbF_at V 0 a h]
  unfold twoL
  rw [List.take_of_length_le (by rw [List.length_drop, nbF_len]; omega)]
  congr 1
  refine List.map_congr_left fun y _ => ?_
  simp; omega
/-- Two variables and a pair. -/
def besY (ps : List LPr) (p : LPr) (a : Nat) (x : LPl) (b : Nat) (y : LPl) : List (List Int) := if x.1 = p.1 ∧ y.1 = p.2.1 ∧ mayL ps p.1 x.2 p.2.1 y.2 = false then [[-(a : Int) - 1, -(b : Int) - 1]] else []
def besL (ps : List LPr) (p : LPr) (V : List LPl) (a : Nat) (x : LPl) (m : Nat) : List (List Int) := ((nbF 0 V).take m).flatMap fun y => if x.1 = p.1 ∧ y.1.1 = p.2.1 ∧ mayL ps p.1 x.2 p.2.1 y.1.2 = false then [[-(a : Int) - 1, -y.2]] else []
theorem besL_zero (ps : List LPr) (p : LPr) (V : List LPl) (a : Nat) (x : LPl) : besL ps p V a x 0 = [] := by simp [besL]
theorem besL_step (ps : List LPr) (p : LPr) (V : List LPl) (a : Nat) (x : LPl) (m : Nat) (h : m < V.length) : besL ps p V a x (m + 1) = besL ps p V a x m ++ besY ps p a x m V[m] := by
  unfold besL
  rw [nb_take V m h, List.flatMap_append]
  congr 1
  unfold besY
  by_cases g : x.1 = p.1 ∧ V[m].1 = p.2.1 ∧ mayL ps p.1 x.2 p.2.1 V[m].2 = false
  · simp [g]; omega
  · simp [g]
def besK (ps : List LPr) (p : LPr) (V : List LPl) (a : Nat) : List (List Int) := ((nbF 0 V).take a).flatMap fun x => (nbF 0 V).flatMap fun y => if x.1.1 = p.1 ∧ y.1.1 = p.2.1 ∧ mayL ps p.1 x.1.2 p.2.1 y.1.2 = false then [[-x.2, -y.2]] else []
theorem besK_zero (ps : List LPr) (p : LPr) (V : List LPl) : besK ps p V 0 = [] := by simp [besK]
theorem besK_step (ps : List LPr) (p : LPr) (V : List LPl) (a : Nat) (h : a < V.length) (m : Nat) (hm : V.length ≤ m) : besK ps p V (a + 1) = besK ps p V a ++ besL ps p V a V[a] m := by
  unfold besK
  rw [nb_take V a h, List.flatMap_append]
  congr 1
  unfold besL
  rw [List.take_of_length_le (show (nbF 0 V).length ≤ m by rw [nbF_len]; exact hm)]
  simp only [List.flatMap_cons, List.flatMap_nil, List.append_nil]
  refine flatMap_cong _ fun y _ => ?_
  rw [show -((a : Int) + 1) = -(a : Int) - 1 by omega]
theorem besK_all (ps : List LPr) (p : LPr) (V : List LPl) (m : Nat) (hm : V.length ≤ m) : besK ps p V m = besS ps (nbF 0 V) p := by
  unfold besK besS
  rw [List.take_of_length_le (show (nbF 0 V).length ≤ m by rw [nbF_len]; exact hm)]
theorem cnA_spec {rs : List LSt} {ps : List LPr} {ids : List Int} (top : Int) (h : IdsR rs ps ids) : cnA rs ps top ids = ids.map (ownA (plF rs top ids)) ++ (twoS (nbF 0 (plF rs top ids)) ++ ps.flatMap (besS ps (nbF 0 (plF rs top ids)))) := by
  unfold cnA
  rw [if_pos (B_yes h), cnf_both rs ps top ids (rises_nodup (idsR_rise h))]
  rfl
theorem cnA_no {rs : List LSt} {ps : List LPr} {ids : List Int} (top : Int) (h : ¬ IdsR rs ps ids) : cnA rs ps top ids = [] ∧ cnN rs ps top ids = 0 := by
  unfold cnA cnN
  rw [B_no h]
  simp
end Go.Proofs.Ytaogkdhloogmhaa
namespace Go.Proofs.Ytaogkdhloogmhaa
open Go.RowKit
set_option linter.unusedVariables false

theorem sub_len : ∀ (l m : List Int), l.Nodup → (∀ x ∈ l, x ∈ m) → l.length ≤ m.length
  | [], m, _, _ => Nat.zero_le _
  | a :: r, m, hd, h => by
    have ha := h a (by simp)
    rw [List.nodup_cons] at hd
    have h1 := sub_len r (m.erase a) hd.2 (fun x hx => by
      have hne : x ≠ a := fun e => hd.1 (e ▸ hx)
      exact (List.mem_erase_of_ne hne).2 (h x (by simp [hx])))
    rw [List.length_erase_of_mem ha] at h1
    have : 0 < m.length := List.length_pos_of_mem ha
    simp only [List.length_cons]
    omega

/-- No fault, said of all at once. -/
theorem fault0 (rs : List LSt) (ps : List LPr) (top : Int) : ∀ (pl pre : List LPl), (∀ p ∈ pl, p.1 ≠ 0) → (faultF rs ps top pre pl = 0 ↔ (∀ p ∈ pl, p.2 ∈ rs.flatMap (domF p.1 top)) ∧ (∀ p ∈ pl, ∀ o ∈ pre, mayL ps o.1 o.2 p.1 p.2 = true) ∧ pl.Pairwise (fun o p => mayL ps o.1 o.2 p.1 p.2 = true))
  | [], pre, _ => by simp [faultF]
  | p :: r, pre, h => by
    have hp := h p (by simp)
    have ih := fault0 rs ps top r (pre ++ [p]) (fun q hq => h q (by simp [hq]))
    unfold faultF
    by_cases hg : goodB rs ps top pre p = true
    · rw [if_pos hg, ih]
      unfold goodB at hg
      rw [Bool.and_eq_true, List.all_eq_true] at hg
      obtain ⟨g1, g2⟩ := hg
      have g1 := B_true g1
      constructor
      · rintro ⟨a, b, c⟩
        refine ⟨fun q hq => ?_, fun q hq o ho => ?_, List.pairwise_cons.2 ⟨fun q hq => b q hq p (by simp), c⟩⟩
        · rcases List.mem_cons.1 hq with rfl | hq
          · exact g1
          · exact a q hq
        · rcases List.mem_cons.1 hq with rfl | hq
          · exact g2 o ho
          · exact b q hq o (by simp [ho])
      · rintro ⟨a, b, c⟩
        rw [List.pairwise_cons] at c
        refine ⟨fun q hq => a q (by simp [hq]), fun q hq o ho => ?_, c.2⟩
        rcases List.mem_append.1 ho with ho | ho
        · exact b q (by simp [hq]) o ho
        · rw [List.mem_singleton.1 ho]; exact c.1 q hq
    · rw [if_neg hg]
      constructor
      · intro e; exact absurd e hp
      · rintro ⟨a, b, c⟩
        refine absurd ?_ hg
        unfold goodB
        rw [Bool.and_eq_true, List.all_eq_true]
        exact ⟨B_yes (a p (by simp)), fun o ho => b p (by simp) o ho⟩
/-- A right plan, said of all at once. -/
structure PlanOk (rs : List LSt) (ps : List LPr) (top : Int) (pl : List LPl) : Prop where
  ln : pl.length ≤ 400
  ids : IdsR rs ps (pidsL pl)
  dom : ∀ p ∈ pl, p.2 ∈ rs.flatMap (domF p.1 top)
  may : pl.Pairwise (fun o p => mayL ps o.1 o.2 p.1 p.2 = true)
theorem planB_ok (rs : List LSt) (ps : List LPr) (top : Int) (pl : List LPl) : planB rs ps top pl = true ↔ PlanOk rs ps top pl := by
  unfold planB faultA
  rw [Bool.and_eq_true, decide_eq_true_iff, beq_iff_eq]
  constructor
  · rintro ⟨h1, h2⟩
    rw [if_pos h1] at h2
    by_cases hi : IdsR rs ps (pidsL pl)
    · rw [B_yes hi, if_pos rfl] at h2
      have := (fault0 rs ps top pl [] (fun p hp => by have := ids_small hi p hp; omega)).1 h2
      exact ⟨h1, hi, this.1, this.2.2⟩
    · rw [B_no hi] at h2; simp at h2
  · rintro ⟨h1, hi, h3, h4⟩
    refine ⟨h1, ?_⟩
    rw [if_pos h1, B_yes hi, if_pos rfl]
    exact (fault0 rs ps top pl [] (fun p hp => by have := ids_small hi p hp; omega)).2 ⟨h3, fun p _ o ho => by simp at ho, h4⟩
theorem may_sym (rs : List LSt) (ps : List LPr) (h : TabR rs ps) (a c b d : Int) : mayL ps a c b d = mayL ps b d a c := by
  have h1 : ∀ p ∈ ps, p.1 < p.2.1 ∧ (p.2.2 = 1 ∨ p.2.2 = 2) := fun p hp => ⟨(h.2.2.2.1 p hp).1, (h.2.2.2.1 p hp).2.1⟩
  rw [may_fit1 ps a c b d h1 h.2.2.2.2, may_fit1 ps b d a c h1 h.2.2.2.2, show min a b = min b a by omega, show max a b = max b a by omega, show max c d - min c d = max d c - min d c by omega]
theorem rise_pair (zs : List Int) (h : RiseTo zs zs.length) (lo hi : Int) (hb : ∀ z ∈ zs, lo ≤ z ∧ z ≤ hi) : zs.Pairwise (· < ·) := by
  rw [List.pairwise_iff_getElem]
  intro i j hi' hj hij
  have := rise_lt zs lo hi (fun k hk => ⟨hb _ (getD_mem hk), fun h0 => h k hk h0⟩) i j hij hj
  simpa [hi', hj] using this
theorem pair_rise (zs : List Int) (h : zs.Pairwise (· < ·)) : RiseTo zs zs.length := by
  rw [List.pairwise_iff_getElem] at h
  intro i hi h0
  have := h (i - 1) i (by omega) hi (by omega)
  simpa [hi, show i - 1 < zs.length by omega] using this
theorem ids_pair {rs : List LSt} {ps : List LPr} {zs : List Int} (h : IdsR rs ps zs) : zs.Pairwise (· < ·) := rise_pair zs h.2.2.1 1 999 (fun z hz => h.2.1.2.2.1.mem (h.2.2.2 z hz))
theorem ids_few {rs : List LSt} {ps : List LPr} {zs : List Int} (h : IdsR rs ps zs) : zs.length ≤ 12 := by
  have h1 : zs.Nodup := (ids_pair h).imp (fun h => by omega)
  have h2 := sub_len zs (idsL rs) h1 h.2.2.2
  have h3 := h.2.1.1.2.1
  rw [show (idsL rs).length = rs.length by simp [idsL]] at h2
  omega
end Go.Proofs.Ytaogkdhloogmhaa
namespace Go.Proofs.Ytaogkdhloogmhaa
open Go.RowKit
set_option linter.unusedVariables false

/-- The first k clauses are right. -/
def ClsTo (vars : Int) (zss : List (List Int)) (k : Nat) : Prop := ∀ i, i < k → ClR vars (zss.getD i [])
/-- Clauses are right. -/
def CnfR (vars : Int) (zss : List (List Int)) : Prop := (0 ≤ vars ∧ vars ≤ 96) ∧ zss.length ≤ 4000 ∧ ClsTo vars zss zss.length
theorem ClsTo.zero (vars : Int) (zss : List (List Int)) : ClsTo vars zss 0 := fun i h => absurd h (Nat.not_lt_zero _)
theorem ClsTo.step {vars : Int} {zss : List (List Int)} {k : Nat} (h : ClsTo vars zss k) (g : ClR vars (zss.getD k [])) : ClsTo vars zss (k + 1) := fun i hi => by
  by_cases e : i = k
  · subst e; exact g
  · exact h i (by omega)
theorem bareC_get {cs : List LCl} {k : Nat} (h : k < cs.length) : (bareC cs).getD k [] = cs[k].2 := by simp [bareC, h]
theorem bareC_length (cs : List LCl) : (bareC cs).length = cs.length := by simp [bareC]
/-- A Cnf lies in block b. -/
def CnfAt (w : World) (b : Nat) (vars : Int) (sl : Option Addr) (n cap : Nat) : Prop := w.heap[b]? = some (.cells #[.int .i64 vars, .slice sl n cap] 33)
theorem CnfAt.lt {w : World} {b : Nat} {vars : Int} {sl : Option Addr} {n cap : Nat} (h : CnfAt w b vars sl n cap) : b < w.heap.size := (Array.getElem?_eq_some_iff.1 h).1
theorem CnfAt.below {w w' : World} {b : Nat} {vars : Int} {sl : Option Addr} {n cap : Nat} (h : CnfAt w b vars sl n cap) (hb : Below w.heap.size w w') : CnfAt w' b vars sl n cap := (hb.block b h.lt).trans h
theorem CnfAt.cells {w : World} {b : Nat} {vars : Int} {sl : Option Addr} {n cap : Nat} (h : CnfAt w b vars sl n cap) : w.cell? ⟨b, 0, none⟩ = some (.int .i64 vars) ∧ w.cell? ⟨b, 1, none⟩ = some (.slice sl n cap) := by
  unfold CnfAt at h
  constructor <;> simp [World.cell?, h]
theorem CnfAt.new (w : World) (vars : Int) (sl : Option Addr) (n cap : Nat) : CnfAt (w.alloc (.cells #[.int .i64 vars, .slice sl n cap] 33)) w.heap.size vars sl n cap := new_at _ _

set_option maxRecDepth 100000 in
set_option maxHeartbeats 2000000 in
/-- impl.CnfRight. -/
theorem icr_any (vars : Int) (sl : Option Addr) (cap : Nat) (cs : List LCl) (w : World) (hn : cs.length ≤ maxLen) (hz : Cls w sl cs) :
    Calls Try.prog 51 #[CV vars sl cs.length cap] w fun e w' => e = .returned (.bool (B (CnfR vars (bareC cs)))) ∧ Below w.heap.size w w' := by
  unfold maxLen at hn
  have CA := Lib.hid (CnfAt.new w vars sl cs.length cap)
  have B0 := Lib.hid (bA0 w (.cells #[.int .i64 vars, .slice sl cs.length cap] 33))
  have HB := Lib.hid (bareC_length cs)
  by_cases c1 : vars < 0
  · have NO := Lib.hid (B_no (p := CnfR vars (bareC cs)) (fun g => by have := g.1.1; omega))
    rw [NO.out]
    clear NO hz HB
    generalize cs.length = n at *
    go_enter Try.func51, Try.ntmps51
    go_wp2
    go_ret
    exact ⟨rfl, B0.out⟩
  by_cases c2 : 96 < vars
  · have NO := Lib.hid (B_no (p := CnfR vars (bareC cs)) (fun g => by have := g.1.2; omega))
    rw [NO.out]
    clear NO hz HB
    generalize cs.length = n at *
    go_enter Try.func51, Try.ntmps51
    go_wp2
    go_ret
    exact ⟨rfl, B0.out⟩
  by_cases c3 : 4000 < cs.length
  · have NO := Lib.hid (B_no (p := CnfR vars (bareC cs)) (fun g => by have := g.2.1; rw [HB.out] at this; omega))
    have c3' : (4000 : Int) < (cs.length : Int) := by omega
    rw [NO.out]
    clear NO hz HB
    generalize cs.length = n at *
    go_enter Try.func51, Try.ntmps51
    go_wp2
    go_ret
    exact ⟨rfl, B0.out⟩
  have c3' : ¬ (4000 : Int) < (cs.length : Int) := by omega
  have YY := Lib.hid (show ∀ k, cs.length ≤ k → ClsTo vars (bareC cs) k → B (CnfR vars (bareC cs)) = true from fun k hk h => B_yes ⟨⟨by omega, by omega⟩, by rw [HB.out]; omega, fun i hi => h i (by rw [HB.out] at hi; omega)⟩)
  have NN := Lib.hid (show ∀ k, k < cs.length → ¬ ClR vars ((bareC cs).getD k []) → B (CnfR vars (bareC cs)) = false from fun k hk h => B_no (fun g => h (g.2.2 k (by rw [HB.out]; exact hk))))
  have HZ := Lib.hid hz
  clear hz HB
  generalize hN : cs.length = n at *
  have HN := Lib.hid hN
  clear hN
  go_enter Try.func51, Try.ntmps51
  go_wp2
  go_loopw [22] (fun i wr => ∃ k : Nat, i = .int .i64 k ∧ k ≤ n ∧ Hid (ClsTo vars (bareC cs) k) ∧ Hid (Below (w.alloc (.cells #[.int .i64 vars, .slice sl n cap] 33)).heap.size (w.alloc (.cells #[.int .i64 vars, .slice sl n cap] 33)) wr)) (fun i _ => n - (intOf i).toNat)
  case atStart => exact ⟨0, rfl, Nat.zero_le _, ClsTo.zero _ _, Below.refl _ _⟩
  case round =>
    obtain ⟨k, rfl, hk, IT, H2⟩ := hrel
    have hk0 : (0 : Int) ≤ (k : Int) := by omega
    have DW := Lib.hid (bT B0.out H2.out)
    by_cases g1 : k < n
    · have g1' : (k : Int) < (n : Int) := by omega
      have hlt : k < cs.length := by rw [HN.out]; exact g1
      have TA := CA.out.below H2.out
      obtain ⟨t0, t1⟩ := TA.cells
      have tl := TA.lt
      obtain ⟨c, o, rfl, Z0⟩ := HZ.out.at hlt
      have hc := (Z0.below DW.out).2 k hlt
      obtain ⟨s1, k1, v1, i1, l1⟩ := (HZ.out.each cs[k] (List.getElem_mem hlt)).below DW.out
      rw [v1] at hc
      have E := Lib.hid (clr_any vars s1 k1 cs[k].2 wr i1)
      have BG := Lib.hid (bareC_get hlt)
      cases hb : B (ClR vars cs[k].2) with
      | true =>
        rw [hb] at E
        have IT2 := Lib.hid (IT.out.step (by rw [BG.out]; exact B_true hb))
        clear hb IT i1 l1 Z0 TA v1 BG
        generalize cs[k].2.length = q at *
        clear hlt
        go_wp2_with fail
        refine E.out.mono ?_
        rintro e w5 ⟨rfl, b5⟩
        have D5 := Lib.hid (bT H2.out b5)
        clear b5 E
        go_wp2
        go_roundw
        case rel => exact ⟨k + 1, by go_num, by omega, IT2, D5⟩
        case measure => simp [intOf]; omega
      | false =>
        rw [hb] at E
        have NO := Lib.hid (NN.out k g1 (by rw [BG.out]; exact B_false hb))
        clear hb IT i1 l1 Z0 TA v1 BG
        generalize cs[k].2.length = q at *
        clear hlt
        go_wp2_with fail
        refine E.out.mono ?_
        rintro e w5 ⟨rfl, b5⟩
        have D5 := Lib.hid (bT DW.out b5)
        clear b5 E
        go_wp2
        go_ret
        exact ⟨by rw [NO.out]; rfl, D5.out⟩
    · have g1' : ¬ (k : Int) < (n : Int) := by omega
      have YES := Lib.hid (YY.out k (by omega) IT.out)
      clear IT
      go_wp2
      go_ret
      exact ⟨by rw [YES.out]; rfl, DW.out⟩

end Go.Proofs.Ytaogkdhloogmhaa
namespace Go.Proofs.Ytaogkdhloogmhaa
open Go.RowKit
set_option linter.unusedVariables false

/-- A literal of a variable up to vars. -/
def OkZ (vars z : Int) : Prop := z ≠ 0 ∧ z ≤ vars ∧ -vars ≤ z
/-- The one at i is of another variable than the first k. -/
def ApartQ (zs : List Int) (i k : Nat) : Prop := ∀ j, j < k → zs.getD j 0 ≠ zs.getD i 0 ∧ zs.getD j 0 ≠ -zs.getD i 0
def SpTo (vars : Int) (zs : List Int) (n : Nat) : Prop := ∀ i, i < n → OkZ vars (zs.getD i 0) ∧ ApartQ zs i i
/-- A clause is right, as the model asks it. -/
def ClS (vars : Int) (wide : Nat) (zs : List Int) : Prop := zs.length ≤ wide ∧ SpTo vars zs zs.length
theorem SpTo.zero (vars : Int) (zs : List Int) : SpTo vars zs 0 := fun i h => absurd h (Nat.not_lt_zero _)
theorem SpTo.step {vars : Int} {zs : List Int} {k : Nat} (h : SpTo vars zs k) (g : OkZ vars (zs.getD k 0)) (a : ApartQ zs k k) : SpTo vars zs (k + 1) := fun i hi => by
  by_cases e : i = k
  · subst e; exact ⟨g, a⟩
  · exact h i (by omega)
theorem ApartQ.zero (zs : List Int) (i : Nat) : ApartQ zs i 0 := fun j h => absurd h (Nat.not_lt_zero _)
theorem ApartQ.step {zs : List Int} {i k : Nat} (h : ApartQ zs i k) (g1 : zs.getD k 0 ≠ zs.getD i 0) (g2 : zs.getD k 0 ≠ -zs.getD i 0) : ApartQ zs i (k + 1) := fun j hj => by
  by_cases e : j = k
  · subst e; exact ⟨g1, g2⟩
  · exact h j (by omega)

theorem wrap_in (n : Int) (h : -9223372036854775808 ≤ n ∧ n ≤ 9223372036854775807) : wrap64 n = n := by unfold wrap64; omega

set_option maxRecDepth 100000 in
set_option maxHeartbeats 1000000 in
theorem l06_nil (vars : Int) (sl : Option Addr) (cap wide : Nat) (w : World) :
    Calls Try.prog 57 #[.int .i64 vars, .slice sl 0 cap, .int .i64 wide] w fun e w' => e = .returned (.bool true) ∧ Below w.heap.size w w' := by
  have h0 : ¬ (wide : Int) < 0 := by omega
  go_enter Try.func57, Try.ntmps57
  go_wp2
  refine wp_loop_rounds 1 ?_
  rw [rounds_succ]
  go_wp2
  go_ret
  exact ⟨rfl, Below.refl _ _⟩

set_option maxRecDepth 100000 in
set_option maxHeartbeats 4000000 in
theorem l06_some (vars : Int) (c o cap wide : Nat) (zs : List Int) (w : World) (hv0 : 0 ≤ vars) (hv1 : vars ≤ 96) (hn : zs.length ≤ 1048576) (hz : IntsAt w c o zs) :
    Calls Try.prog 57 #[.int .i64 vars, .slice (some ⟨c, o, none⟩) zs.length cap, .int .i64 wide] w fun e w' => e = .returned (.bool (B (ClS vars wide zs))) ∧ Below w.heap.size w w' := by
  have HZ := Lib.hid hz
  clear hz
  have hnv : wrap64 (-vars) = -vars := wrap_in _ ⟨by omega, by omega⟩
  by_cases hw : wide < zs.length
  · have hw' : (wide : Int) < (zs.length : Int) := by omega
    rw [B_no (p := ClS vars wide zs) (fun g => by have := g.1; omega)]
    clear HZ
    generalize zs.length = n at *
    go_enter Try.func57, Try.ntmps57
    go_wp2
    go_ret
    exact ⟨rfl, Below.refl _ _⟩
  have hw' : ¬ (wide : Int) < (zs.length : Int) := by omega
  have NN := Lib.hid (show ∀ i, i < zs.length → ¬ (OkZ vars (zs.getD i 0) ∧ ApartQ zs i i) → B (ClS vars wide zs) = false from fun i hi h => B_no (fun g => h (g.2 i hi)))
  have YY := Lib.hid (show ∀ i, zs.length ≤ i → SpTo vars zs i → B (ClS vars wide zs) = true from fun i hi h => B_yes ⟨by omega, fun j hj => h j (by omega)⟩)
  generalize hN : zs.length = n at *
  have HN := Lib.hid hN
  clear hN
  go_enter Try.func57, Try.ntmps57
  go_wp2
  go_loopw [7] (fun i wr => ∃ k : Nat, i = .int .i64 k ∧ k ≤ n ∧ Hid (SpTo vars zs k) ∧ Hid (Below w.heap.size w wr)) (fun i _ => n - (intOf i).toNat)
  case atStart => exact ⟨0, rfl, Nat.zero_le _, SpTo.zero _ _, Below.refl _ _⟩
  case round =>
    obtain ⟨i, rfl, hi, H1, H2⟩ := hrel
    have hi0 : (0 : Int) ≤ (i : Int) := by omega
    by_cases h1 : i < n
    · have h1' : (i : Int) < (n : Int) := by omega
      have hlt : i < zs.length := by rw [HN.out]; exact h1
      have hc : wr.cell? ⟨c, o + i, none⟩ = some (.int .i64 (zs.getD i 0)) := (H2.out.cell HZ.out.1).trans (HZ.out.2 i hlt)
      by_cases a1 : zs.getD i 0 = 0
      · have HF := Lib.hid (NN.out i h1 (fun g => g.1.1 a1))
        rw [a1] at hc
        clear hlt
        go_wp2
        go_ret
        exact ⟨by rw [HF.out]; rfl, H2.out⟩
      by_cases a2 : vars < zs.getD i 0
      · have HF := Lib.hid (NN.out i h1 (fun g => by have := g.1.2.1; omega))
        have a1' : (zs.getD i 0 == 0) = false := by simpa using a1
        clear hlt a1
        generalize zs.getD i 0 = z at *
        go_wp2
        go_ret
        exact ⟨by rw [HF.out]; rfl, H2.out⟩
      by_cases a3 : zs.getD i 0 < -vars
      · have HF := Lib.hid (NN.out i h1 (fun g => by have := g.1.2.2; omega))
        have a1' : (zs.getD i 0 == 0) = false := by simpa using a1
        clear hlt a1
        generalize zs.getD i 0 = z at *
        go_wp2
        go_ret
        exact ⟨by rw [HF.out]; rfl, H2.out⟩
      have OK := Lib.hid (show OkZ vars (zs.getD i 0) from ⟨a1, by omega, by omega⟩)
      have a1' : (zs.getD i 0 == 0) = false := by simpa using a1
      have hnz : wrap64 (-zs.getD i 0) = -zs.getD i 0 := wrap_in _ ⟨by omega, by omega⟩
      have FF := Lib.hid (show ∀ k, k < i → (zs.getD k 0 = zs.getD i 0 ∨ zs.getD k 0 = -zs.getD i 0) → B (ClS vars wide zs) = false from fun k hk e => NN.out i h1 (fun g => by
        have := g.2 k hk
        rcases e with e | e
        · exact this.1 e
        · exact this.2 e))
      have SS := Lib.hid (show ApartQ zs i i → SpTo vars zs (i + 1) from fun a => H1.out.step OK.out a)
      have SA := Lib.hid (show ∀ k, ApartQ zs i k → zs.getD k 0 ≠ zs.getD i 0 → zs.getD k 0 ≠ -zs.getD i 0 → ApartQ zs i (k + 1) from fun k a g1 g2 => a.step g1 g2)
      have CZ := Lib.hid (show ∀ W, Below w.heap.size w W → W.cell? ⟨c, o + i, none⟩ = some (.int .i64 (zs.getD i 0)) from fun W hW => (hW.cell HZ.out.1).trans (HZ.out.2 i hlt))
      clear hlt a1 OK H1 NN YY
      generalize zs.getD i 0 = z at *
      go_wp2
      go_loopw [8] (fun j wq => ∃ k : Nat, j = .int .i64 k ∧ k ≤ i ∧ Hid (ApartQ zs i k) ∧ Hid (Below w.heap.size w wq)) (fun j _ => i - (intOf j).toNat)
      case atStart => exact ⟨0, rfl, Nat.zero_le _, ApartQ.zero _ _, H2⟩
      case round =>
        obtain ⟨k, rfl, hk, H3, H4⟩ := hrel
        have hk0 : (0 : Int) ≤ (k : Int) := by omega
        by_cases g1 : k < i
        · have g1' : (k : Int) < (i : Int) := by omega
          have gn : (k : Int) < (n : Int) := by omega
          have hlt : k < zs.length := by rw [HN.out]; omega
          have hd : wr.cell? ⟨c, o + k, none⟩ = some (.int .i64 (zs.getD k 0)) := (H4.out.cell HZ.out.1).trans (HZ.out.2 k hlt)
          have hc : wr.cell? ⟨c, o + i, none⟩ = some (.int .i64 z) := CZ.out wr H4.out
          clear hlt
          by_cases e1 : zs.getD k 0 = z
          · have HF := Lib.hid (FF.out k g1 (.inl e1))
            rw [e1] at hd
            have hzz : (z == z) = true := by simp
            clear FF SA SS
            go_wp2
            go_quiet (fail)
            go_wp2
            go_ret
            exact ⟨by rw [HF.out]; rfl, below_drewN H4.out _⟩
          · have e1' : (zs.getD k 0 == z) = false := by simpa using e1
            by_cases e2 : zs.getD k 0 = -z
            · have HF := Lib.hid (FF.out k g1 (.inr e2))
              rw [e2] at hd e1'
              have hzz : (-z == -z) = true := by simp
              clear FF SA SS e1 e2
              go_wp2
              go_quiet (fail)
              go_wp2
              go_ret
              exact ⟨by rw [HF.out]; rfl, below_drewN H4.out _⟩
            · have e2' : (zs.getD k 0 == -z) = false := by simpa using e2
              have HS := Lib.hid (SA.out k H3.out e1 e2)
              clear FF SA H3 e1 e2
              generalize zs.getD k 0 = y at *
              go_wp2
              go_quiet (fail)
              go_wp2
              go_roundw
              case rel => exact ⟨k + 1, by go_num, by omega, HS, below_drewN H4.out _⟩
              case measure => simp [intOf]; omega
        · have g1' : ¬ (k : Int) < (i : Int) := by omega
          have HS := Lib.hid (SS.out (by have := H3.out; rwa [show k = i by omega] at this))
          clear FF SA SS H3
          go_wp2
          go_roundw
          case rel => exact ⟨i + 1, by go_num, by omega, HS, H4⟩
          case measure => simp [intOf]; omega
    · have h1' : ¬ (i : Int) < (n : Int) := by omega
      have HE := Lib.hid (YY.out i (by omega) H1.out)
      go_wp2
      go_ret
      exact ⟨by rw [HE.out]; rfl, H2.out⟩

end Go.Proofs.Ytaogkdhloogmhaa
namespace Go.Proofs.Ytaogkdhloogmhaa
open Go.RowKit
set_option linter.unusedVariables false

theorem wfI_in {z : Int} (h : wfI z) : -9223372036854775808 ≤ z ∧ z ≤ 9223372036854775807 := bounds_i64 h
theorem lv_ok {vars z : Int} (hv0 : 0 ≤ vars) (hv1 : vars ≤ 96) (h : OkZ vars z) : lv z = max z (-z) := by
  unfold lv
  rw [wrap_in _ ⟨by have := h.2.1; omega, by have := h.2.2; omega⟩]
theorem lv_in {vars z : Int} (hv0 : 0 ≤ vars) (hv1 : vars ≤ 96) (hw : wfI z) : (1 ≤ lv z ∧ lv z ≤ vars) ↔ OkZ vars z := by
  have hb := wfI_in hw
  constructor
  · rintro ⟨h1, h2⟩
    unfold lv wrap64 at h1 h2
    unfold OkZ
    omega
  · intro h
    rw [lv_ok hv0 hv1 h]
    unfold OkZ at h
    omega
theorem clr_cls {vars : Int} {zs : List Int} (hv0 : 0 ≤ vars) (hv1 : vars ≤ 96) (hw : ∀ z ∈ zs, wfI z) : ClS vars 16 zs ↔ ClR vars zs := by
  have gd : ∀ i (h : i < zs.length), zs.getD i 0 = zs[i] := fun i h => by simp [h]
  constructor
  · rintro ⟨h1, h2⟩
    have ok : ∀ z ∈ zs, OkZ vars z := fun z hz => by
      obtain ⟨i, hi, rfl⟩ := List.getElem_of_mem hz
      have := (h2 i hi).1
      rwa [gd i hi] at this
    refine ⟨h1, fun z hz => (lv_in hv0 hv1 (hw z hz)).2 (ok z hz), ?_⟩
    rw [List.Nodup, List.pairwise_map, List.pairwise_iff_getElem]
    intro i j hi hj hij
    have := (h2 j hj).2 i hij
    rw [gd i hi, gd j hj] at this
    rw [lv_ok hv0 hv1 (ok _ (List.getElem_mem hi)), lv_ok hv0 hv1 (ok _ (List.getElem_mem hj))]
    omega
  · rintro ⟨h1, h2, h3⟩
    rw [List.Nodup, List.pairwise_map, List.pairwise_iff_getElem] at h3
    have ok : ∀ z ∈ zs, OkZ vars z := fun z hz => (lv_in hv0 hv1 (hw z hz)).1 (h2 z hz)
    refine ⟨h1, fun j hj => ⟨by rw [gd j hj]; exact ok _ (List.getElem_mem hj), fun i hij => ?_⟩⟩
    have hi : i < zs.length := by omega
    have := h3 i j hi hj hij
    rw [lv_ok hv0 hv1 (ok _ (List.getElem_mem hi)), lv_ok hv0 hv1 (ok _ (List.getElem_mem hj))] at this
    rw [gd i hi, gd j hj]
    omega
/-- spec.l06Clause at 16 literals. -/
theorem l06_any (vars : Int) (sl : Option Addr) (cap : Nat) (zs : List Int) (w : World) (hv0 : 0 ≤ vars) (hv1 : vars ≤ 96) (hn : zs.length ≤ 1048576) (hw : ∀ z ∈ zs, wfI z) (hz : Ints w sl zs) :
    Calls Try.prog 57 #[.int .i64 vars, .slice sl zs.length cap, .int .i64 16] w fun e w' => e = .returned (.bool (B (ClR vars zs))) ∧ Below w.heap.size w w' := by
  rw [← B_iff (clr_cls hv0 hv1 hw)]
  rcases hz with rfl | ⟨c, o, rfl, h⟩
  · rw [B_yes (show ClS vars 16 [] from ⟨Nat.zero_le _, SpTo.zero _ _⟩)]
    exact l06_nil vars sl cap 16 w
  · exact l06_some vars c o cap 16 zs w hv0 hv1 hn h

/-- All literals are numbers of 64 bits. -/
def WfC (cs : List LCl) : Prop := ∀ r ∈ cs, ∀ z ∈ r.2, wfI z
set_option maxRecDepth 100000 in
set_option maxHeartbeats 2000000 in
/-- spec.CnfRight. -/
theorem scr_any (vars : Int) (sl : Option Addr) (cap : Nat) (cs : List LCl) (w : World) (hn : cs.length ≤ maxLen) (hs : totC cs ≤ 1048576) (hwf : WfC cs) (hz : Cls w sl cs) :
    Calls Try.prog 40 #[CV vars sl cs.length cap] w fun e w' => e = .returned (.bool (B (CnfR vars (bareC cs)))) ∧ Below w.heap.size w w' := by
  unfold maxLen at hn
  have CA := Lib.hid (CnfAt.new w vars sl cs.length cap)
  have B0 := Lib.hid (bA0 w (.cells #[.int .i64 vars, .slice sl cs.length cap] 33))
  have HB := Lib.hid (bareC_length cs)
  by_cases c1 : vars < 0
  · have NO := Lib.hid (B_no (p := CnfR vars (bareC cs)) (fun g => by have := g.1.1; omega))
    rw [NO.out]
    clear NO hz HB hwf
    generalize cs.length = n at *
    go_enter Try.func40, Try.ntmps40
    go_wp2
    go_ret
    exact ⟨rfl, B0.out⟩
  by_cases c2 : 96 < vars
  · have NO := Lib.hid (B_no (p := CnfR vars (bareC cs)) (fun g => by have := g.1.2; omega))
    rw [NO.out]
    clear NO hz HB hwf
    generalize cs.length = n at *
    go_enter Try.func40, Try.ntmps40
    go_wp2
    go_ret
    exact ⟨rfl, B0.out⟩
  by_cases c3 : 4000 < cs.length
  · have NO := Lib.hid (B_no (p := CnfR vars (bareC cs)) (fun g => by have := g.2.1; rw [HB.out] at this; omega))
    have c3' : (4000 : Int) < (cs.length : Int) := by omega
    rw [NO.out]
    clear NO hz HB hwf
    generalize cs.length = n at *
    go_enter Try.func40, Try.ntmps40
    go_wp2
    go_ret
    exact ⟨rfl, B0.out⟩
  have c3' : ¬ (4000 : Int) < (cs.length : Int) := by omega
  have YY := Lib.hid (show ∀ k, cs.length ≤ k → ClsTo vars (bareC cs) k → B (CnfR vars (bareC cs)) = true from fun k hk h => B_yes ⟨⟨by omega, by omega⟩, by rw [HB.out]; omega, fun i hi => h i (by rw [HB.out] at hi; omega)⟩)
  have NN := Lib.hid (show ∀ k, k < cs.length → ¬ ClR vars ((bareC cs).getD k []) → B (CnfR vars (bareC cs)) = false from fun k hk h => B_no (fun g => h (g.2.2 k (by rw [HB.out]; exact hk))))
  have HZ := Lib.hid hz
  have HS := Lib.hid (fun r hr => Nat.le_trans (totC_mem cs r hr) hs)
  have HW := Lib.hid hwf
  clear hz HB hs hwf
  generalize hN : cs.length = n at *
  have HN := Lib.hid hN
  clear hN
  go_enter Try.func40, Try.ntmps40
  go_wp2
  go_loopw [3] (fun i wr => ∃ k : Nat, i = .int .i64 k ∧ k ≤ n ∧ Hid (ClsTo vars (bareC cs) k) ∧ Hid (Below (w.alloc (.cells #[.int .i64 vars, .slice sl n cap] 33)).heap.size (w.alloc (.cells #[.int .i64 vars, .slice sl n cap] 33)) wr)) (fun i _ => n - (intOf i).toNat)
  case atStart => exact ⟨0, rfl, Nat.zero_le _, ClsTo.zero _ _, Below.refl _ _⟩
  case round =>
    obtain ⟨k, rfl, hk, IT, H2⟩ := hrel
    have hk0 : (0 : Int) ≤ (k : Int) := by omega
    have DW := Lib.hid (bT B0.out H2.out)
    have TA := CA.out.below H2.out
    obtain ⟨t0, t1⟩ := TA.cells
    have tl := TA.lt
    by_cases g1 : k < n
    · have g1' : (k : Int) < (n : Int) := by omega
      have hlt : k < cs.length := by rw [HN.out]; exact g1
      obtain ⟨g, o, rfl, Z0⟩ := HZ.out.at hlt
      have hc := (Z0.below DW.out).2 k hlt
      have hgl := (Z0.below DW.out).1
      obtain ⟨s1, k1, v1, i1, l1⟩ := (HZ.out.each cs[k] (List.getElem_mem hlt)).below DW.out
      rw [v1] at hc
      have E : Hid (∀ W, Below wr.heap.size wr W → Calls Try.prog 57 #[.int .i64 vars, .slice s1 cs[k].2.length k1, .int .i64 16] W fun e w' => e = .returned (.bool (B (ClR vars cs[k].2))) ∧ Below W.heap.size W w') := fun W hW => l06_any vars s1 k1 cs[k].2 W (by omega) (by omega) (HS.out _ (List.getElem_mem hlt)) (HW.out _ (List.getElem_mem hlt)) (i1.below hW)
      have BG := Lib.hid (bareC_get hlt)
      cases hb : B (ClR vars cs[k].2) with
      | true =>
        rw [hb] at E
        have IT2 := Lib.hid (IT.out.step (by rw [BG.out]; exact B_true hb))
        clear hb IT i1 l1 Z0 v1 BG
        generalize cs[k].2.length = q at *
        clear hlt
        have KB : Hid (∀ W, Below wr.heap.size wr W → w.heap.size < W.heap.size ∧ g < W.heap.size ∧ W.cell? ⟨w.heap.size, 0, none⟩ = some (.int .i64 vars) ∧ W.cell? ⟨w.heap.size, 1, none⟩ = some (.slice (some ⟨g, o, none⟩) n cap) ∧ W.cell? ⟨g, o + k, none⟩ = some (.slice s1 q k1)) := fun W hW => ⟨Nat.lt_of_lt_of_le tl hW.size, Nat.lt_of_lt_of_le hgl hW.size, (hW.cell tl).trans t0, (hW.cell tl).trans t1, (hW.cell hgl).trans hc⟩
        clear TA
        go_wp2_with fail
        refine wp_region_held_drew (S := fun W => w.heap.size < W.heap.size ∧ g < W.heap.size ∧ W.cell? ⟨w.heap.size, 0, none⟩ = some (.int .i64 vars) ∧ W.cell? ⟨w.heap.size, 1, none⟩ = some (.slice (some ⟨g, o, none⟩) n cap) ∧ W.cell? ⟨g, o + k, none⟩ = some (.slice s1 q k1)) (by kernel_rfl) ?_ (fun hHeld => ?_)
        · exact KB.out _ (Below.refl _ _).drew
        refine wpAnyH_take (i := 0) (oi := _) (v := ?_) rfl (by kernel_rfl) (by kernel_rfl) (by kernel_rfl) (fun _ _ _ h => h) (Or.inl ⟨by rfl, ?_⟩) (by assumption) ?_
        rotate_left
        · first | (intro w hSw; (try dsimp only at hSw); go_simp; done) | (intro w hSw; (try dsimp only at hSw); go_simp; with_reducible rfl)
        try simp only [Act.put, List.setIfInBounds_toArray, List.set_cons_zero, List.set_cons_succ, List.getElem_toArray, List.getElem_cons_zero]
        refine wpAnyH_take (i := 1) (oi := _) (v := ?_) rfl (by kernel_rfl) (by kernel_rfl) (by kernel_rfl) (fun _ _ _ h => h) (Or.inl ⟨by rfl, ?_⟩) (by assumption) ?_
        rotate_left
        · first | (intro w hSw; (try dsimp only at hSw); go_simp; done) | (intro w hSw; (try dsimp only at hSw); go_simp; with_reducible rfl)
        try simp only [Act.put, List.setIfInBounds_toArray, List.set_cons_zero, List.set_cons_succ, List.getElem_toArray, List.getElem_cons_succ, List.getElem_cons_zero]
        refine wpAnyH_take (i := 2) (oi := _) (v := ?_) rfl (by kernel_rfl) (by kernel_rfl) (by kernel_rfl) (fun _ _ _ h => h) (Or.inl ⟨by rfl, ?_⟩) (by assumption) ?_
        rotate_left
        · first | (intro w hSw; (try dsimp only at hSw); go_simp; done) | (intro w hSw; (try dsimp only at hSw); go_simp; with_reducible rfl)
        try simp only [Act.put, List.setIfInBounds_toArray, List.set_cons_zero, List.set_cons_succ, List.getElem_toArray, List.getElem_cons_succ, List.getElem_cons_zero]
        refine wpAnyH_take (i := 3) (oi := _) (v := ?_) rfl (by kernel_rfl) (by kernel_rfl) (by kernel_rfl) (fun _ _ _ h => h) (Or.inl ⟨by rfl, ?_⟩) (by assumption) ?_
        rotate_left
        · first | (intro w hSw; (try dsimp only at hSw); go_simp; done) | (intro w hSw; (try dsimp only at hSw); go_simp; with_reducible rfl)
        try simp only [Act.put, List.setIfInBounds_toArray, List.set_cons_zero, List.set_cons_succ, List.getElem_toArray, List.getElem_cons_succ, List.getElem_cons_zero]
        refine wpAnyH_take (i := 4) (oi := _) (v := ?_) rfl (by kernel_rfl) (by kernel_rfl) (by kernel_rfl) (fun _ _ _ h => h) (Or.inl ⟨by rfl, ?_⟩) (by assumption) ?_
        rotate_left
        · first | (intro w hSw; (try dsimp only at hSw); go_simp; done) | (intro w hSw; (try dsimp only at hSw); go_simp; with_reducible rfl)
        try simp only [Act.put, List.setIfInBounds_toArray, List.set_cons_zero, List.set_cons_succ, List.getElem_toArray, List.getElem_cons_succ, List.getElem_cons_zero]
        refine wpAnyH_take (i := 5) (oi := _) (v := ?_) rfl (by kernel_rfl) (by kernel_rfl) (by kernel_rfl) (fun _ _ _ h => h) (Or.inl ⟨by rfl, ?_⟩) (by assumption) ?_
        rotate_left
        · first | (intro w hSw; (try dsimp only at hSw); go_simp; done) | (intro w hSw; (try dsimp only at hSw); go_simp; with_reducible rfl)
        try simp only [Act.put, List.setIfInBounds_toArray, List.set_cons_zero, List.set_cons_succ, List.getElem_toArray, List.getElem_cons_succ, List.getElem_cons_zero]
        refine wpAnyH_take (i := 6) (oi := _) (v := ?_) rfl (by kernel_rfl) (by kernel_rfl) (by kernel_rfl) (fun _ _ _ h => h) (Or.inl ⟨by rfl, ?_⟩) (by assumption) ?_
        rotate_left
        · first | (intro w hSw; (try dsimp only at hSw); go_simp; done) | (intro w hSw; (try dsimp only at hSw); go_simp; with_reducible rfl)
        try simp only [Act.put, List.setIfInBounds_toArray, List.set_cons_zero, List.set_cons_succ, List.getElem_toArray, List.getElem_cons_succ, List.getElem_cons_zero]
        refine wpAnyH_ready (rs := [7]) (by kernel_rfl) (by simp) ?_
        refine AllReadyH.cons rfl (fun K hK => ?_) AllReadyH.nil
        go_simp
        go_wp2_with (go_at_call 57; refine (E.out _ (by first | exact Below.refl _ _ | exact (Below.refl _ _).drew | exact Go.below_drewN (Below.refl _ _) _)).mono ?_; rintro e w5 ⟨rfl, b5⟩)
        have D5 : Hid (Below wr.heap.size wr w5) := bT ((Below.refl wr.heap.size wr).drew) b5
        clear b5
        refine hK.out _ _ ?_ (fun hHeld => ?_)
        · exact KB.out _ D5.out
        clear hK K
        refine wpAnyH_take (i := 8) (oi := _) (v := ?_) rfl (by kernel_rfl) (by kernel_rfl) (by kernel_rfl) (fun _ _ _ h => h) (Or.inl ⟨by rfl, ?_⟩) (by assumption) ?_
        rotate_left
        · first | (intro w hSw; (try dsimp only at hSw); go_simp; done) | (intro w hSw; (try dsimp only at hSw); go_simp; with_reducible rfl)
        try simp only [Act.put, List.setIfInBounds_toArray, List.set_cons_zero, List.set_cons_succ, List.getElem_toArray, List.getElem_cons_succ, List.getElem_cons_zero]
        refine wpAnyH_done (by kernel_rfl) ?_ _
        have BQ5 := Lib.hid (bT H2.out D5.out)
        clear D5 KB E
        go_wp2_with fail
        go_roundw
        case rel => exact ⟨k + 1, by go_num, by omega, IT2, BQ5⟩
        case measure => simp [intOf]; omega
      | false =>
        rw [hb] at E
        have NO := Lib.hid (NN.out k g1 (by rw [BG.out]; exact B_false hb))
        clear hb IT i1 l1 Z0 v1 BG
        generalize cs[k].2.length = q at *
        clear hlt
        have KB : Hid (∀ W, Below wr.heap.size wr W → w.heap.size < W.heap.size ∧ g < W.heap.size ∧ W.cell? ⟨w.heap.size, 0, none⟩ = some (.int .i64 vars) ∧ W.cell? ⟨w.heap.size, 1, none⟩ = some (.slice (some ⟨g, o, none⟩) n cap) ∧ W.cell? ⟨g, o + k, none⟩ = some (.slice s1 q k1)) := fun W hW => ⟨Nat.lt_of_lt_of_le tl hW.size, Nat.lt_of_lt_of_le hgl hW.size, (hW.cell tl).trans t0, (hW.cell tl).trans t1, (hW.cell hgl).trans hc⟩
        clear TA
        go_wp2_with fail
        refine wp_region_held_drew (S := fun W => w.heap.size < W.heap.size ∧ g < W.heap.size ∧ W.cell? ⟨w.heap.size, 0, none⟩ = some (.int .i64 vars) ∧ W.cell? ⟨w.heap.size, 1, none⟩ = some (.slice (some ⟨g, o, none⟩) n cap) ∧ W.cell? ⟨g, o + k, none⟩ = some (.slice s1 q k1)) (by kernel_rfl) ?_ (fun hHeld => ?_)
        · exact KB.out _ (Below.refl _ _).drew
        refine wpAnyH_take (i := 0) (oi := _) (v := ?_) rfl (by kernel_rfl) (by kernel_rfl) (by kernel_rfl) (fun _ _ _ h => h) (Or.inl ⟨by rfl, ?_⟩) (by assumption) ?_
        rotate_left
        · first | (intro w hSw; (try dsimp only at hSw); go_simp; done) | (intro w hSw; (try dsimp only at hSw); go_simp; with_reducible rfl)
        try simp only [Act.put, List.setIfInBounds_toArray, List.set_cons_zero, List.set_cons_succ, List.getElem_toArray, List.getElem_cons_zero]
        refine wpAnyH_take (i := 1) (oi := _) (v := ?_) rfl (by kernel_rfl) (by kernel_rfl) (by kernel_rfl) (fun _ _ _ h => h) (Or.inl ⟨by rfl, ?_⟩) (by assumption) ?_
        rotate_left
        · first | (intro w hSw; (try dsimp only at hSw); go_simp; done) | (intro w hSw; (try dsimp only at hSw); go_simp; with_reducible rfl)
        try simp only [Act.put, List.setIfInBounds_toArray, List.set_cons_zero, List.set_cons_succ, List.getElem_toArray, List.getElem_cons_succ, List.getElem_cons_zero]
        refine wpAnyH_take (i := 2) (oi := _) (v := ?_) rfl (by kernel_rfl) (by kernel_rfl) (by kernel_rfl) (fun _ _ _ h => h) (Or.inl ⟨by rfl, ?_⟩) (by assumption) ?_
        rotate_left
        · first | (intro w hSw; (try dsimp only at hSw); go_simp; done) | (intro w hSw; (try dsimp only at hSw); go_simp; with_reducible rfl)
        try simp only [Act.put, List.setIfInBounds_toArray, List.set_cons_zero, List.set_cons_succ, List.getElem_toArray, List.getElem_cons_succ, List.getElem_cons_zero]
        refine wpAnyH_take (i := 3) (oi := _) (v := ?_) rfl (by kernel_rfl) (by kernel_rfl) (by kernel_rfl) (fun _ _ _ h => h) (Or.inl ⟨by rfl, ?_⟩) (by assumption) ?_
        rotate_left
        · first | (intro w hSw; (try dsimp only at hSw); go_simp; done) | (intro w hSw; (try dsimp only at hSw); go_simp; with_reducible rfl)
        try simp only [Act.put, List.setIfInBounds_toArray, List.set_cons_zero, List.set_cons_succ, List.getElem_toArray, List.getElem_cons_succ, List.getElem_cons_zero]
        refine wpAnyH_take (i := 4) (oi := _) (v := ?_) rfl (by kernel_rfl) (by kernel_rfl) (by kernel_rfl) (fun _ _ _ h => h) (Or.inl ⟨by rfl, ?_⟩) (by assumption) ?_
        rotate_left
        · first | (intro w hSw; (try dsimp only at hSw); go_simp; done) | (intro w hSw; (try dsimp only at hSw); go_simp; with_reducible rfl)
        try simp only [Act.put, List.setIfInBounds_toArray, List.set_cons_zero, List.set_cons_succ, List.getElem_toArray, List.getElem_cons_succ, List.getElem_cons_zero]
        refine wpAnyH_take (i := 5) (oi := _) (v := ?_) rfl (by kernel_rfl) (by kernel_rfl) (by kernel_rfl) (fun _ _ _ h => h) (Or.inl ⟨by rfl, ?_⟩) (by assumption) ?_
        rotate_left
        · first | (intro w hSw; (try dsimp only at hSw); go_simp; done) | (intro w hSw; (try dsimp only at hSw); go_simp; with_reducible rfl)
        try simp only [Act.put, List.setIfInBounds_toArray, List.set_cons_zero, List.set_cons_succ, List.getElem_toArray, List.getElem_cons_succ, List.getElem_cons_zero]
        refine wpAnyH_take (i := 6) (oi := _) (v := ?_) rfl (by kernel_rfl) (by kernel_rfl) (by kernel_rfl) (fun _ _ _ h => h) (Or.inl ⟨by rfl, ?_⟩) (by assumption) ?_
        rotate_left
        · first | (intro w hSw; (try dsimp only at hSw); go_simp; done) | (intro w hSw; (try dsimp only at hSw); go_simp; with_reducible rfl)
        try simp only [Act.put, List.setIfInBounds_toArray, List.set_cons_zero, List.set_cons_succ, List.getElem_toArray, List.getElem_cons_succ, List.getElem_cons_zero]
        refine wpAnyH_ready (rs := [7]) (by kernel_rfl) (by simp) ?_
        refine AllReadyH.cons rfl (fun K hK => ?_) AllReadyH.nil
        go_simp
        go_wp2_with (go_at_call 57; refine (E.out _ (by first | exact Below.refl _ _ | exact (Below.refl _ _).drew | exact Go.below_drewN (Below.refl _ _) _)).mono ?_; rintro e w5 ⟨rfl, b5⟩)
        have D5 : Hid (Below wr.heap.size wr w5) := bT ((Below.refl wr.heap.size wr).drew) b5
        clear b5
        refine hK.out _ _ ?_ (fun hHeld => ?_)
        · exact KB.out _ D5.out
        clear hK K
        refine wpAnyH_take (i := 8) (oi := _) (v := ?_) rfl (by kernel_rfl) (by kernel_rfl) (by kernel_rfl) (fun _ _ _ h => h) (Or.inl ⟨by rfl, ?_⟩) (by assumption) ?_
        rotate_left
        · first | (intro w hSw; (try dsimp only at hSw); go_simp; done) | (intro w hSw; (try dsimp only at hSw); go_simp; with_reducible rfl)
        try simp only [Act.put, List.setIfInBounds_toArray, List.set_cons_zero, List.set_cons_succ, List.getElem_toArray, List.getElem_cons_succ, List.getElem_cons_zero]
        refine wpAnyH_done (by kernel_rfl) ?_ _
        have BQ5 := Lib.hid (bT DW.out D5.out)
        clear D5 KB E
        go_wp2_with fail
        go_ret
        exact ⟨by rw [NO.out]; rfl, BQ5.out⟩
    · have g1' : ¬ (k : Int) < (n : Int) := by omega
      have YES := Lib.hid (YY.out k (by omega) IT.out)
      clear IT
      go_wp2
      go_ret
      exact ⟨by rw [YES.out]; rfl, DW.out⟩

end Go.Proofs.Ytaogkdhloogmhaa
