import Derived.Test.YtnihhbfgbilimaaGreatDoorTw
import Derived.Test.YtnihhbfgbilimaaGreatDoorPu
import Derived.Test.YtnihhbfgbilimaaGreatDoorZWa
import Derived.Test.YtnihhbfgbilimaaGreatDoorXan
namespace Go.Proofs.YtnihhbfgbilimaaGreatDoor
open Go.RowKit
set_option linter.unusedVariables false
open List (setIfInBounds_toArray set_cons_zero set_cons_succ getElem_toArray getElem_cons_succ getElem_cons_zero)
def BndC (cs : List LCl) (k a b : Nat) : Prop := ∃ x y : Nat, x ≤ 1600000000 * k ∧ y ≤ 38400 * a ∧ cs.length ≤ 2000000000 + x + y + b
theorem BndC.zero {cs : List LCl} (h : cs.length ≤ 2000000000) : BndC cs 0 0 0 := ⟨0, 0, Nat.zero_le _, Nat.zero_le _, h⟩
theorem BndC.row {cs : List LCl} {k a b : Nat} (h : BndC cs k a b) (hb : b ≤ 38400) : BndC cs k (a + 1) 0 := by
 obtain ⟨x, y, hx, hy, h⟩ := h
 refine ⟨x, y + b, hx, ?_, ?_⟩
 ·rw [Nat.mul_add]; exact Nat.add_le_add hy hb
 ·rw [Nat.add_zero, ← Nat.add_assoc]; exact h
theorem BndC.pair {cs : List LCl} {k a b : Nat} (h : BndC cs k a b) (hb : b ≤ 38400) (ha : a ≤ 38400) : BndC cs (k + 1) 0 0 := by
 obtain ⟨x, y, hx, hy, h⟩ := h
 refine ⟨x + (y + b), 0, ?_, Nat.zero_le _, ?_⟩
 ·rw [Nat.mul_add]
  refine Nat.add_le_add hx ?_
  have h2 : 38400 * a ≤ 38400 * 38400 := Nat.mul_le_mul_left _ ha
  omega
 ·omega
theorem BndC.next {cs : List LCl} {k a b : Nat} (h : BndC cs k a b) : BndC cs k a (b + 1) := by
 obtain ⟨x, y, hx, hy, h⟩ := h
 exact ⟨x, y, hx, hy, Nat.le_succ_of_le h⟩
theorem BndC.more {cs ds : List LCl} {k a b : Nat} (h : BndC cs k a b) (hl : ds.length = cs.length + 1) : BndC ds k a (b + 1) := by
 obtain ⟨x, y, hx, hy, h⟩ := h
 exact ⟨x, y, hx, hy, by rw [hl]; exact Nat.succ_le_succ h⟩
theorem BndC.big {cs : List LCl} {k a b : Nat} (h : BndC cs k a b) (hk : k ≤ 40) (ha : a ≤ 38400) (hb : b ≤ 38400) : cs.length ≤ 100000000000 := by
 obtain ⟨x, y, hx, hy, h⟩ := h
 omega
set_option maxRecDepth 100000 in
set_option maxHeartbeats 16000000 in
theorem sco_any (sl : Option Addr) (cap : Nat) (sl2 : Option Addr) (cap2 : Nat) (sl3 : Option Addr) (cap3 : Nat) (rs : List LSt) (ps : List LPr) (top : Int) (ids : List Int) (w : World) (hn : rs.length ≤ 1048576) (hl : ids.length ≤ 1048576) (hz : Sts w sl rs) (hp : Prs w sl2 ps) (hi : Ints w sl3 ids) :
  Calls Tryz.prog 72 #[TV sl rs.length cap sl2 ps.length cap2, .int .i64 top, .slice sl3 ids.length cap3] w fun e w' => ∃ v cs, e = .returned (.agg #[.int .i64 (cnN rs ps top ids : Nat), v]) ∧ OwC w' w.heap.size v cs ∧ bareC cs = cnA rs ps top ids ∧ Below w.heap.size w w' := by
 obtain ⟨i2, hi2, hb0, hb1, hb2⟩ := info_parts info2'
 obtain ⟨i4, hi4, hd0, hd1, hd2⟩ := info_parts info40
 have E1 : Hid (∀ W, Below w.heap.size w W → Calls Tryz.prog 56 #[TV sl rs.length cap sl2 ps.length cap2, .slice sl3 ids.length cap3] W fun e w' => e = .returned (.bool (B (IdsR rs ps ids))) ∧ Below W.heap.size W w') := fun W hW => sir_any sl cap sl2 cap2 sl3 cap3 rs ps ids W hn hl (hz.below hW) (hp.below hW) (hi.below hW)
 have HT := Lib.hid ((TabAtE.new w sl rs.length cap sl2 ps.length cap2).below (bA0 _ (.cells #[.int .i64 0, .slice none 0 0] 110)))
 have HR : Hid (BoxR ((w.alloc (.cells #[.slice sl rs.length cap, .slice sl2 ps.length cap2] 26)).alloc (.cells #[.int .i64 0, .slice none 0 0] 110)) (w.heap.size + 1)) := by
  have := new_at (w.alloc (.cells #[.slice sl rs.length cap, .slice sl2 ps.length cap2] 26)) (.cells #[.int .i64 0, .slice none 0 0] 110)
  rwa [show (w.alloc (.cells #[.slice sl rs.length cap, .slice sl2 ps.length cap2] 26)).heap.size = w.heap.size + 1 by simp] at this
 have B0 := Lib.hid (bA (bA0 w (.cells #[.slice sl rs.length cap, .slice sl2 ps.length cap2] 26)) (.cells #[.int .i64 0, .slice none 0 0] 110))
 have S0 : ((w.alloc (.cells #[.slice sl rs.length cap, .slice sl2 ps.length cap2] 26)).alloc (.cells #[.int .i64 0, .slice none 0 0] 110)).heap.size = w.heap.size + 2 := by simp
 by_cases h5 : 400 < ids.length
 ·have h5' : (400 : Int) < (ids.length : Int) := by omega
  obtain ⟨ea, en⟩ := cnA_no (rs := rs) (ps := ps) top (show ¬ IdsR rs ps ids from fun h => by have := h.1; omega)
  rw [ea, en]
  clear hz hp hi E1 HT ea en
  generalize rs.length = rn at *
  generalize ps.length = pn at *
  generalize ids.length = ni at *
  go_enter Tryz.func72, Tryz.ntmps72
  go_wp2_with fail
  generalize (w.alloc (.cells #[.slice sl rn cap, .slice sl2 pn cap2] 26)).alloc (.cells #[.int .i64 0, .slice none 0 0] 110) = w0 at *
  obtain ⟨rl, r0, r1, f0, f1⟩ := HR.out.facts
  refine bodyPost_ret (v := .agg #[.int .i64 0, .slice none 0 0]) (by simp [results, Tryz.results72, go_sem, r0, r1]) rfl ⟨_, [], rfl, OwC.nil _ _, rfl, B0.out⟩
 have h5' : ¬ (400 : Int) < (ids.length : Int) := by omega
 by_cases hIR : ¬ IdsR rs ps ids
 ·rw [B_no hIR] at E1
  obtain ⟨ea, en⟩ := cnA_no top hIR
  rw [ea, en]
  clear hIR hz hp hi ea en
  generalize rs.length = rn at *
  generalize ps.length = pn at *
  generalize ids.length = ni at *
  go_enter Tryz.func72, Tryz.ntmps72
  go_wp2_with fail
  generalize (w.alloc (.cells #[.slice sl rn cap, .slice sl2 pn cap2] 26)).alloc (.cells #[.int .i64 0, .slice none 0 0] 110) = w0 at *
  refine (E1.out _ B0.out).mono ?_
  rintro e w1 ⟨rfl, b1⟩
  have D1 := Lib.hid (bT B0.out b1)
  obtain ⟨rl, r0, r1, f0, f1⟩ := BoxR.facts (show BoxR w1 (w.heap.size + 1) from (b1.block _ (by omega)).trans HR.out)
  have P : Hid (Below w.heap.size w ((w1.setCell ⟨w.heap.size + 1, 0, none⟩ (.int .i64 0)).setCell ⟨w.heap.size + 1, 1, none⟩ (.slice none 0 0))) := (D1.out.setCell (Nat.le_add_right _ 1) _).setCell (Nat.le_add_right _ 1) _
  clear b1 E1 HT HR
  go_wp2
  refine bodyPost_ret (v := .agg #[.int .i64 0, .slice none 0 0]) (by simp [results, Tryz.results72, go_sem, r0, r1]) rfl ⟨_, [], rfl, OwC.nil _ _, rfl, P.out⟩
 replace hIR : IdsR rs ps ids := Classical.not_not.1 hIR
 rw [B_yes hIR] at E1
 have E2 := Lib.hid (fun W (hW : Below w.heap.size w W) => vars_any sl cap sl2 cap2 sl3 cap3 rs ps top ids W hn (by omega) (hz.below hW) (hp.below hW) hIR.2.1 (hi.below hW))
 have PL := plF_le top ids hIR.2.1
 have hm40 : ps.length ≤ 40 := hIR.2.1.1.2.2
 have E3 := Lib.hid (fun (a c b d : Int) W (hW : Below w.heap.size w W) (hc : 0 ≤ c ∧ c ≤ 1000) (hd : 0 ≤ d ∧ d ≤ 1000) => may_any sl rs.length cap sl2 cap2 ps a c b d W (by omega) hc hd (hp.below hW))
 have CN := Lib.hid (show cnN rs ps top ids = (plF rs top ids).length by unfold cnN; rw [if_pos (B_yes hIR)])
 have CA := Lib.hid (cnA_spec top hIR)
 have SM : Hid (∀ x ∈ plF rs top ids, 0 ≤ x.2 ∧ x.2 ≤ 1000) := fun x hx => by
  unfold plF at hx
  obtain ⟨id, hid, h2⟩ := List.mem_flatMap.1 hx
  unfold chF at h2
  obtain ⟨c, hc, rfl⟩ := List.mem_map.1 h2
  have := dom_small rs ps id top c hIR.2.1 hc
  exact ⟨by show (0 : Int) ≤ c; omega, by show c ≤ 1000; omega⟩
 have HP := Lib.hid hp
 have HI := Lib.hid hi
 rw [CN.out]
 clear hIR hz hp hi CN
 generalize plF rs top ids = V at *
 generalize hNV : V.length = nV at *
 have HNV := Lib.hid hNV
 clear hNV
 generalize rs.length = rn at *
 generalize hPn : ps.length = pn at *
 have HPN := Lib.hid hPn
 clear hPn
 generalize hNi : ids.length = ni at *
 have HNI := Lib.hid hNi
 clear hNi
 have hnV : nV ≤ 38400 := by omega
 go_enter Tryz.func72, Tryz.ntmps72
 go_wp2_with fail
 generalize (w.alloc (.cells #[.slice sl rn cap, .slice sl2 pn cap2] 26)).alloc (.cells #[.int .i64 0, .slice none 0 0] 110) = w0 at *
 refine (E1.out _ B0.out).mono ?_
 rintro e w1 ⟨rfl, b1⟩
 have D1 := Lib.hid b1
 have XT1 := HT.out.below b1
 obtain ⟨t0, t1⟩ := XT1.cells
 have tl := XT1.lt
 clear b1 XT1
 go_wp2_with fail
 refine (E2.out _ (bT B0.out D1.out)).mono ?_
 rintro e w2 ⟨vv, rfl, o2, b2⟩
 have D2 := Lib.hid (bT D1.out b2)
 obtain ⟨sV, cV, rfl, PV0⟩ : ∃ sV cV, vv = .slice sV nV cV ∧ (V = [] ∨ ∃ c, sV = some ⟨c, 0, none⟩ ∧ PlAt w2 c 0 V) := by
  have := o2
  rw [← HNV.out] at this
  obtain ⟨sV, cV, e, h⟩ := own_pls this
  rw [HNV.out] at e
  refine ⟨sV, cV, e, ?_⟩
  rcases h with h | ⟨c, h1, h2, h3⟩
  ·exact .inl h
  ·exact .inr ⟨c, h1, h2⟩
 have hs0 := B0.out.size
 have hs2 := D2.out.size
 have SS : Hid (SpS w (w2.alloc (.cells #[.int .i64 (nV : Nat), .slice none 0 0] 110)) w2.heap.size (nV : Nat) (w2.alloc (.cells #[.int .i64 (nV : Nat), .slice none 0 0] 110)) (.slice none 0 0) []) := ⟨by omega, by simp, new_at _ _, OwC.nil _ _, Kp1.refl _ _ _, bA (bT B0.out D2.out) _⟩
 have TB : Hid (∀ wq v cs, SpS w (w2.alloc (.cells #[.int .i64 (nV : Nat), .slice none 0 0] 110)) w2.heap.size (nV : Nat) wq v cs → w.heap.size < wq.heap.size ∧ wq.cell? ⟨w.heap.size, 0, none⟩ = some (.slice sl rn cap) ∧ wq.cell? ⟨w.heap.size, 1, none⟩ = some (.slice sl2 pn cap2)) := fun wq v cs h => by
  have X := (HT.out.below D2.out).below (bA0 w2 (.cells #[.int .i64 (nV : Nat), .slice none 0 0] 110))
  obtain ⟨x0, x1⟩ := X.cells
  have q0 := h.old X.lt (by omega) 0
  have q1 := h.old X.lt (by omega) 1
  exact ⟨q0.1, q0.2.trans x0, q1.2.trans x1⟩
 have RB : Hid (∀ wq v cs, SpS w (w2.alloc (.cells #[.int .i64 (nV : Nat), .slice none 0 0] 110)) w2.heap.size (nV : Nat) wq v cs → BoxR wq (w.heap.size + 1)) := fun wq v cs h => by
  have X : BoxR (w2.alloc (.cells #[.int .i64 (nV : Nat), .slice none 0 0] 110)) (w.heap.size + 1) := ((bA D2.out (.cells #[.int .i64 (nV : Nat), .slice none 0 0] 110)).block _ (by omega)).trans HR.out
  exact (h.kp.2 (w.heap.size + 1) (by simp; omega) (by omega)).trans X
 have PC : Hid (∀ m (hm : m < V.length), ∃ c, sV = some ⟨c, 0, none⟩ ∧ ∀ wq v cs, SpS w (w2.alloc (.cells #[.int .i64 (nV : Nat), .slice none 0 0] 110)) w2.heap.size (nV : Nat) wq v cs → c < wq.heap.size ∧ wq.cell? ⟨c, m * 2, none⟩ = some (.int .i64 V[m].1) ∧ wq.cell? ⟨c, m * 2 + 1, none⟩ = some (.int .i64 V[m].2)) := fun m hm => by
  rcases PV0 with e | ⟨c, e, P⟩
  ·rw [e] at hm; simp at hm
  ·refine ⟨c, e, fun wq v cs h => ?_⟩
   have hcl := P.lt
   have P2 := P.below (bA0 w2 (.cells #[.int .i64 (nV : Nat), .slice none 0 0] 110))
   have q0 := h.old P2.lt (by omega) (m * 2)
   have q1 := h.old P2.lt (by omega) (m * 2 + 1)
   have c0 := P2.cell m hm
   rw [Nat.zero_add] at c0
   exact ⟨q0.1, q0.2.trans c0.1, q1.2.trans c0.2⟩
 clear o2 b2 PV0 t0 t1 tl E1 E2 HT HR
 go_wp2_with fail
 obtain ⟨bx, hbx⟩ : ∃ bx, bx = w2.heap.size := ⟨_, rfl⟩
 rw [← hbx] at SS TB RB PC ⊢
 generalize w2.alloc (.cells #[.int .i64 (nV : Nat), .slice none 0 0] 110) = wB at *
 have HBX : w.heap.size + 2 ≤ bx := by omega
 clear hbx
 obtain ⟨nv, hnv⟩ : ∃ nv : Int, nv = (nV : Nat) := ⟨_, rfl⟩
 rw [← hnv] at SS TB RB PC
 have HNv := Lib.hid hnv
 clear hnv D2 hs2 hs0
 go_loopw [10] (fun i wr => ∃ (k : Nat) (v : Value) (cs : List LCl), i = .int .i64 k ∧ k ≤ ni ∧ Hid (SpS w wB bx nv wr v cs) ∧ cs.length ≤ k ∧ Hid (bareC cs = (ids.take k).map (ownA V))) (fun i _ => ni - (intOf i).toNat)
 case atStart => exact ⟨0, _, [], rfl, Nat.zero_le _, SS, Nat.zero_le _, rfl⟩
 case round =>
  obtain ⟨k, v, cs, rfl, hk, SP, hcl, BC⟩ := hrel
  have hk0 : (0 : Int) ≤ (k : Int) := by omega
  by_cases g1 : k < ni
  ·as_aux_lemma =>
    have g1' : (k : Int) < (ni : Int) := by omega
    have hlt : k < ids.length := by rw [HNI.out]; exact g1
    obtain ⟨ci, oi, rfl, ZI⟩ : ∃ c o, sl3 = some ⟨c, o, none⟩ ∧ IntsAt w c o ids := by
     rcases HI.out with e | h
     ·rw [e] at hlt; simp at hlt
     ·exact h
    have IC : Hid (∀ W, Below w.heap.size w W → ci < W.heap.size ∧ W.cell? ⟨ci, oi + k, none⟩ = some (.int .i64 (ids.getD k 0))) := fun W hW => ⟨Nat.lt_of_lt_of_le ZI.1 hW.size, (hW.cell (p := ⟨ci, oi + k, none⟩) ZI.1).trans (ZI.2 k hlt)⟩
    have IS := Lib.hid (show (ids.take (k + 1)).map (ownA V) = bareC cs ++ [ownA V (ids.getD k 0)] by rw [List.take_succ_eq_append_getElem hlt, List.map_append, BC.out]; simp [hlt])
    clear ZI hlt BC
    generalize ids.getD k 0 = id at *
    obtain ⟨wi, rfl⟩ : ∃ wi, wi = wr := ⟨_, rfl⟩
    have OW : Hid ((wi.alloc (.cells #[] 2)).ownsRow wi.heap.size 2 1 (.slice (some ⟨wi.heap.size, 0, none⟩) 0 0) ([] : List Int).length (valsZ [])) := own_none5 wi
    have BW := Lib.hid (bA0 wi (.cells #[] 2))
    obtain ⟨vsl, vcap, rfl⟩ := SP.out.v
    go_wp2_with fail
    generalize wi.alloc (.cells #[] 2) = w6 at *
    go_loopw [11, 12] (fun o i wq => ∃ (m : Nat) (ol : List Int), i = .int .i64 m ∧ m ≤ nV ∧ ol.length ≤ m ∧ Hid (ol = ownL id V m) ∧ Hid (wq.ownsRow wi.heap.size 2 1 o ol.length (valsZ ol)) ∧ Hid (Below wi.heap.size wi wq)) (fun _ i _ => nV - (intOf i).toNat)
    case atStart => exact ⟨0, [], rfl, Nat.zero_le _, Nat.zero_le _, (ownL_zero id V).symm, OW, BW⟩
    case round =>
     obtain ⟨m, ol, rfl, hm, hol, HO, OR, HB⟩ := hrel
     have hm0 : (0 : Int) ≤ (m : Int) := by omega
     have SQ := Lib.hid (SP.out.below HB.out)
     by_cases g2 : m < nV
     ·have g2' : (m : Int) < (nV : Int) := by omega
      have hlt : m < V.length := by rw [HNV.out]; exact g2
      obtain ⟨c, rfl, hvc⟩ := PC.out m hlt
      have OS := Lib.hid (ownL_step id V m hlt)
      have KS := Lib.hid (show c < wr.drew.heap.size ∧ ci < wr.drew.heap.size ∧ wr.drew.cell? ⟨c, m * 2, none⟩ = some (.int .i64 V[m].1) ∧ wr.drew.cell? ⟨ci, oi + k, none⟩ = some (.int .i64 id) from ⟨(hvc _ _ _ SQ.out.drew).1, (IC.out _ SQ.out.drew.bel).1, (hvc _ _ _ SQ.out.drew).2.1, (IC.out _ SQ.out.drew.bel).2⟩)
      generalize V[m].1 = x at *
      clear hvc
      clear hlt
      have RD := Lib.hid (show wr.drew.ownsRow _ _ _ _ _ _ from OR.out)
      have HD := Lib.hid HB.out.drew
      obtain ⟨osl, ocap, rfl⟩ := own_v OR.out
      clear OR HB SQ
      by_cases hx : x = id
      ·subst hx
       rw [if_pos rfl] at OS
       have VS := Lib.hid (show valsZ ol ++ [.int .i64 ((m : Int) + 1)] = valsZ (ol ++ [(m : Int) + 1]) by rw [valsZ_add]; rfl)
       go_wp2_with fail
       refine wp_region_held_drew (S := fun W => c < W.heap.size ∧ ci < W.heap.size ∧ W.cell? ⟨c, m * 2, none⟩ = some (.int .i64 x) ∧ W.cell? ⟨ci, oi + k, none⟩ = some (.int .i64 x)) (by kernel_rfl) ?_ (fun hHeld => ?_)
       ·exact KS.out
       refine tw (i := 0) rfl ?_
       refine tw (i := 1) rfl ?_
       try simp only [Act.put, setIfInBounds_toArray, set_cons_zero, set_cons_succ, getElem_toArray, getElem_cons_succ, getElem_cons_zero]
       refine tw (i := 2) rfl ?_
       refine tw (i := 3) rfl ?_
       try simp only [Act.put, setIfInBounds_toArray, set_cons_zero, set_cons_succ, getElem_toArray, getElem_cons_succ, getElem_cons_zero]
       refine tw (i := 4) rfl ?_
       refine tw (i := 5) rfl ?_
       try simp only [Act.put, setIfInBounds_toArray, set_cons_zero, set_cons_succ, getElem_toArray, getElem_cons_succ, getElem_cons_zero]
       refine tw (i := 6) rfl ?_
       refine tw (i := 7) rfl ?_
       try simp only [Act.put, setIfInBounds_toArray, set_cons_zero, set_cons_succ, getElem_toArray, getElem_cons_succ, getElem_cons_zero]
       refine tw (i := 8) rfl ?_
       refine tw (i := 9) rfl ?_
       try simp only [Act.put, setIfInBounds_toArray, set_cons_zero, set_cons_succ, getElem_toArray, getElem_cons_succ, getElem_cons_zero]
       refine wpAnyH_done (by kernel_rfl) ?_ _
       generalize wr.drew = wd at *
       have hsz := HD.out.size
       have OL := Lib.hid (show ∀ j, (Value.slice osl ol.length ocap).ownBlock = some j → wi.heap.size ≤ j from fun j hj => (RD.out.lt j hj).1)
       go_wp2_with (first | (at_builtin; refine wpList_append_lies _ rfl (.tmp 59) (.tmp 62) 34 rfl wi.heap.size 2 i2 (.int .i64 0) 1 8 Tryz.underlying34 hi2 hb0 hb1 hb2 rfl (by decide) _ _ _ rfl (RD.out.alloc _) ⟨wd.heap.size, 0, none⟩ 1 1 [.int .i64 ((m : Int) + 1)] rfl rfl (cell_one_new wd _ _) (by intro u hu; simp at hu; subst hu; rfl) (by decide) (by unfold maxLen; omega) (by omega) (by simp; omega) (wd.heap.size + 1) (by simp) ?_))
       intro g9 cap9 w9 own9 grow9 hg9 hlt9
       rw [VS.out] at own9
       have N9 : Hid (w9.ownsRow wi.heap.size 2 1 (.slice (some ⟨g9, 0, none⟩) (ol.length + 1) cap9) (ol ++ [(m : Int) + 1]).length (valsZ (ol ++ [(m : Int) + 1]))) := by rw [List.length_append]; exact own9
       have H9 := Lib.hid ((bA HD.out (.cells #[.int .i64 ((m : Int) + 1)] 2)).grown grow9 (by simp; omega) (fun j hj => OL.out j hj))
       have L9 : (ol ++ [(m : Int) + 1]).length ≤ m + 1 := by rw [List.length_append]; simp; omega
       have ON9 : Hid (ol ++ [(m : Int) + 1] = ownL x V (m + 1)) := by rw [OS.out, HO.out]; exact Lib.hid rfl
       clear own9 grow9 hg9 hlt9 OL RD HD VS OS HO KS
       generalize ol ++ [(m : Int) + 1] = ol9 at *
       go_wp2
       go_roundw
       case rel => exact ⟨m + 1, ol9, by go_num, by omega, L9, ON9, N9, H9⟩
       case measure => simp [intOf]; omega
      ·rw [if_neg hx, List.append_nil, ← HO.out] at OS
       go_wp2_with fail
       refine wp_region_held_drew (S := fun W => c < W.heap.size ∧ ci < W.heap.size ∧ W.cell? ⟨c, m * 2, none⟩ = some (.int .i64 x) ∧ W.cell? ⟨ci, oi + k, none⟩ = some (.int .i64 id)) (by kernel_rfl) ?_ (fun hHeld => ?_)
       ·exact KS.out
       refine tw (i := 0) rfl ?_
       refine tw (i := 1) rfl ?_
       try simp only [Act.put, setIfInBounds_toArray, set_cons_zero, set_cons_succ, getElem_toArray, getElem_cons_succ, getElem_cons_zero]
       refine tw (i := 2) rfl ?_
       refine tw (i := 3) rfl ?_
       try simp only [Act.put, setIfInBounds_toArray, set_cons_zero, set_cons_succ, getElem_toArray, getElem_cons_succ, getElem_cons_zero]
       refine tw (i := 4) rfl ?_
       refine tw (i := 5) rfl ?_
       try simp only [Act.put, setIfInBounds_toArray, set_cons_zero, set_cons_succ, getElem_toArray, getElem_cons_succ, getElem_cons_zero]
       refine tw (i := 6) rfl ?_
       refine tw (i := 7) rfl ?_
       try simp only [Act.put, setIfInBounds_toArray, set_cons_zero, set_cons_succ, getElem_toArray, getElem_cons_succ, getElem_cons_zero]
       refine tw (i := 8) rfl ?_
       refine tw (i := 9) rfl ?_
       try simp only [Act.put, setIfInBounds_toArray, set_cons_zero, set_cons_succ, getElem_toArray, getElem_cons_succ, getElem_cons_zero]
       refine wpAnyH_done (by kernel_rfl) ?_ _
       generalize wr.drew = wd at *
       clear KS
       go_wp2
       go_roundw
       case rel => exact ⟨m + 1, ol, by go_num, by omega, by omega, OS.out.symm, RD, HD⟩
       case measure => simp [intOf]; omega
     ·have g2' : ¬ (m : Int) < (nV : Int) := by omega
      have OA := Lib.hid (show ol = ownA V id by rw [HO.out]; exact ownL_all id V m (by rw [HNV.out]; omega))
      obtain ⟨osl, ocap, rfl⟩ := own_v OR.out
      have CVV := Lib.hid (SQ.out.own.row.alloc (.cells #[.slice osl ol.length ocap] 34))
      have BAA := Lib.hid (bA0 wr (.cells #[.slice osl ol.length ocap] 34))
      have BAI := Lib.hid (bA HB.out (.cells #[.slice osl ol.length ocap] 34))
      have hles := SQ.out.le
      have hlei := SP.out.le
      obtain ⟨z0, z1, z2⟩ := SQ.out.cell
      have z3 := SQ.out.lt
      go_wp2_with (first | (at_builtin; refine wpList_append_lies _ rfl (.tmp 65) (.tmp 67) 31 rfl wB.heap.size 34 i4 (.slice none 0 0) 1 24 Tryz.underlying31 hi4 hd0 hd1 hd2 rfl (by decide) _ _ _ rfl CVV.out ⟨wr.heap.size, 0, none⟩ 1 1 [.slice osl ol.length ocap] rfl rfl (cell_at_new _ _ _) (by intro u hu; simp at hu; subst hu; rfl) (by decide) (by unfold maxLen; omega) (by omega) (by simp; omega) (wr.heap.size + 1) (by simp) ?_))
      intro g9 cap9 w9 own9 grow9 hg9 hlt9
      have S9 : Hid (SpS w wB bx nv (w9.setCell ⟨bx, 1, none⟩ (.slice (some ⟨g9, 0, none⟩) (cs.length + 1) cap9)) (.slice (some ⟨g9, 0, none⟩) (cs.length + 1) cap9) (cs ++ [(.slice osl ol.length ocap, ol)])) := SP.out.add BAI.out (own_mono (OR.out.alloc _) hlei) (fun j hj => (OR.out.lt j hj).1) grow9 own9
      obtain ⟨y0, y1, y2⟩ := SQ.out.mid BAA.out grow9
      have L9 : (cs ++ [((Value.slice osl ol.length ocap, ol) : LCl)]).length ≤ k + 1 := by rw [List.length_append]; simp; omega
      have BN9 := Lib.hid (show bareC (cs ++ [((Value.slice osl ol.length ocap, ol) : LCl)]) = (ids.take (k + 1)).map (ownA V) by rw [bareC_add, IS.out, ← OA.out]; rfl)
      clear own9 grow9 hg9 hlt9 CVV BAA BAI SQ SP OR HB z0 z1 z2 z3
      generalize cs ++ [((Value.slice osl ol.length ocap, ol) : LCl)] = cs9 at *
      go_wp2
      go_roundw
      case rel => exact ⟨k + 1, _, cs9, by go_num, by omega, S9, L9, BN9⟩
      case measure => simp [intOf]; omega
  ·have g1' : ¬ (k : Int) < (ni : Int) := by omega
   have BC1 := Lib.hid (show bareC cs = ids.map (ownA V) by rw [BC.out, List.take_of_length_le (by rw [HNI.out]; omega)])
   have hcl1 : cs.length ≤ 400 := by omega
   clear BC hcl SS
   obtain ⟨wi, rfl⟩ : ∃ wi, wi = wr := ⟨_, rfl⟩
   obtain ⟨vsl, vcap, rfl⟩ := SP.out.v
   go_wp2_with fail
   go_loopw [13] (fun i wr => ∃ (a : Nat) (v : Value) (ds : List LCl), i = .int .i64 a ∧ a ≤ nV ∧ Hid (SpS w wB bx nv wr v ds) ∧ ds.length ≤ 400 + a * 38400 ∧ Hid (ids.map (ownA V) ++ twoS (nbF 0 V) = bareC ds ++ twoS ((nbF 0 V).drop a))) (fun i _ => nV - (intOf i).toNat)
   case atStart => exact ⟨0, _, cs, rfl, Nat.zero_le _, SP, by omega, (by show _ = bareC cs ++ twoS ((nbF 0 V).drop 0); rw [BC1.out, List.drop_zero])⟩
   case round =>
    clear BC1 SP
    obtain ⟨a, v, ds, rfl, ha, SP, hcl, BC⟩ := hrel
    have ha0 : (0 : Int) ≤ (a : Int) := by omega
    by_cases g1 : a < nV
    ·as_aux_lemma =>
      have g1' : (a : Int) < (nV : Int) := by omega
      have hlt : a < V.length := by rw [HNV.out]; exact g1
      obtain ⟨c, rfl, hvc⟩ := PC.out a hlt
      have VA := Lib.hid (show ∀ wq v cs, SpS w wB bx nv wq v cs → c < wq.heap.size ∧ wq.cell? ⟨c, a * 2, none⟩ = some (.int .i64 V[a].1) from fun wq v cs h => ⟨(hvc wq v cs h).1, (hvc wq v cs h).2.1⟩)
      have TS := Lib.hid (show ids.map (ownA V) ++ twoS (nbF 0 V) = (bareC ds ++ twoL V a (nV - (a + 1)) V[a].1) ++ twoS ((nbF 0 V).drop (a + 1)) by rw [BC.out, twoS_at V a hlt (nV - (a + 1)) (by rw [HNV.out]; omega), List.append_assoc])
      generalize V[a].1 = x at *
      clear hvc
      clear hlt
      obtain ⟨wi, rfl⟩ : ∃ wi, wi = wr := ⟨_, rfl⟩
      go_wp2_with fail
      go_loopw [14] (fun i wq => ∃ (b : Nat) (v : Value) (es : List LCl), i = .int .i64 b ∧ a + 1 ≤ b ∧ b ≤ nV ∧ Hid (SpS w wB bx nv wq v es) ∧ es.length ≤ 400 + a * 38400 + b ∧ Hid (bareC es = bareC ds ++ twoL V a (b - (a + 1)) x)) (fun i _ => nV - (intOf i).toNat)
      case atStart => exact ⟨a + 1, _, ds, by go_num, Nat.le_refl _, by omega, SP, by omega, (by show bareC ds = bareC ds ++ twoL V a (a + 1 - (a + 1)) x; rw [Nat.sub_self, twoL_zero, List.append_nil])⟩
      case round =>
       obtain ⟨b, v, es, rfl, hab, hb, SE, hel, BE⟩ := hrel
       have hb0 : (0 : Int) ≤ (b : Int) := by omega
       by_cases g2 : b < nV
       ·have g2' : (b : Int) < (nV : Int) := by omega
        have hlt : b < V.length := by rw [HNV.out]; exact g2
        obtain ⟨c', ec, hvc⟩ := PC.out b hlt
        cases ec
        have US := Lib.hid (twoL_step' V a b x hab hlt)
        have SD := Lib.hid SE.out.drew
        have KS := Lib.hid (show c < wr.drew.heap.size ∧ wr.drew.cell? ⟨c, a * 2, none⟩ = some (.int .i64 x) ∧ wr.drew.cell? ⟨c, b * 2, none⟩ = some (.int .i64 V[b].1) from ⟨(VA.out _ _ _ SD.out).1, (VA.out _ _ _ SD.out).2, (hvc _ _ _ SD.out).2.1⟩)
        generalize V[b].1 = y at *
        clear hvc
        clear hlt
        obtain ⟨vsl, vcap, rfl⟩ := SE.out.v
        clear SE
        by_cases hx : y = x
        ·subst hx
         rw [if_pos rfl] at US
         have hel2 : es.length ≤ 2000000000 := by omega
         go_wp2_with fail
         refine wp_region_held_drew (S := fun W => c < W.heap.size ∧ W.cell? ⟨c, a * 2, none⟩ = some (.int .i64 y) ∧ W.cell? ⟨c, b * 2, none⟩ = some (.int .i64 y)) (by kernel_rfl) ?_ (fun hHeld => ?_)
         ·exact KS.out
         refine tw (i := 0) rfl ?_
         refine tw (i := 1) rfl ?_
         try simp only [Act.put, setIfInBounds_toArray, set_cons_zero, set_cons_succ, getElem_toArray, getElem_cons_succ, getElem_cons_zero]
         refine tw (i := 2) rfl ?_
         refine tw (i := 3) rfl ?_
         try simp only [Act.put, setIfInBounds_toArray, set_cons_zero, set_cons_succ, getElem_toArray, getElem_cons_succ, getElem_cons_zero]
         refine tw (i := 4) rfl ?_
         refine tw (i := 5) rfl ?_
         try simp only [Act.put, setIfInBounds_toArray, set_cons_zero, set_cons_succ, getElem_toArray, getElem_cons_succ, getElem_cons_zero]
         refine tw (i := 6) rfl ?_
         refine tw (i := 7) rfl ?_
         try simp only [Act.put, setIfInBounds_toArray, set_cons_zero, set_cons_succ, getElem_toArray, getElem_cons_succ, getElem_cons_zero]
         refine tw (i := 8) rfl ?_
         refine tw (i := 9) rfl ?_
         try simp only [Act.put, setIfInBounds_toArray, set_cons_zero, set_cons_succ, getElem_toArray, getElem_cons_succ, getElem_cons_zero]
         refine tw (i := 10) rfl ?_
         try simp only [Act.put, setIfInBounds_toArray, set_cons_zero, set_cons_succ, getElem_toArray, getElem_cons_succ, getElem_cons_zero]
         refine wpAnyH_done (by kernel_rfl) ?_ _
         generalize wr.drew = wd at *
         clear KS
         have ON := Lib.hid ((own_two wd (-(a : Int) - 1) (-(b : Int) - 1)).alloc (.cells #[.slice (some ⟨wd.heap.size, 0, none⟩) 2 2] 34))
         have CVV := Lib.hid ((SD.out.own.row.alloc (.cells #[.int .i64 (-(a : Int) - 1), .int .i64 (-(b : Int) - 1)] 2)).alloc (.cells #[.slice (some ⟨wd.heap.size, 0, none⟩) 2 2] 34))
         have BAA := Lib.hid (bA (bA0 wd (.cells #[.int .i64 (-(a : Int) - 1), .int .i64 (-(b : Int) - 1)] 2)) (.cells #[.slice (some ⟨wd.heap.size, 0, none⟩) 2 2] 34))
         have hles := SD.out.le
         obtain ⟨z0, z1, z2⟩ := SD.out.cell
         have z3 := SD.out.lt
         go_wp2_with (first | (at_builtin; refine wpList_append_lies _ rfl (.tmp 94) (.tmp 102) 31 rfl wB.heap.size 34 i4 (.slice none 0 0) 1 24 Tryz.underlying31 hi4 hd0 hd1 hd2 rfl (by decide) _ _ _ rfl CVV.out ⟨wd.heap.size + 1, 0, none⟩ 1 1 [.slice (some ⟨wd.heap.size, 0, none⟩) 2 2] (by simp [Act.eval]) rfl (cell_at_new' wd _ _ _) (by intro u hu; simp at hu; subst hu; rfl) (by decide) (by unfold maxLen; omega) (by omega) (by simp; omega) (wd.heap.size + 2) (by simp) ?_))
         intro g9 cap9 w9 own9 grow9 hg9 hlt9
         have S9 : Hid (SpS w wB bx nv (w9.setCell ⟨bx, 1, none⟩ (.slice (some ⟨g9, 0, none⟩) (es.length + 1) cap9)) (.slice (some ⟨g9, 0, none⟩) (es.length + 1) cap9) (es ++ [(.slice (some ⟨wd.heap.size, 0, none⟩) 2 2, [(-(a : Int) - 1), (-(b : Int) - 1)])])) := SD.out.add BAA.out (own_mono ON.out hles) (fun j hj => (ON.out.lt j hj).1) grow9 own9
         obtain ⟨yy0, yy1, yy2⟩ := SD.out.mid BAA.out grow9
         have L9 : (es ++ [((Value.slice (some ⟨wd.heap.size, 0, none⟩) 2 2, [(-(a : Int) - 1), (-(b : Int) - 1)]) : LCl)]).length = es.length + 1 := by simp
         have BN9 := Lib.hid (show bareC (es ++ [((Value.slice (some ⟨wd.heap.size, 0, none⟩) 2 2, [(-(a : Int) - 1), (-(b : Int) - 1)]) : LCl)]) = bareC es ++ [[(-(a : Int) - 1), (-(b : Int) - 1)]] by rw [bareC_add]; rfl)
         clear own9 grow9 hg9 hlt9 ON CVV BAA SD z0 z1 z2 z3
         generalize es ++ [((Value.slice (some ⟨wd.heap.size, 0, none⟩) 2 2, [(-(a : Int) - 1), (-(b : Int) - 1)]) : LCl)] = cs9 at *
         have N9 : Hid (bareC cs9 = bareC ds ++ twoL V a (b + 1 - (a + 1)) y) := by rw [US.out, BN9.out, BE.out, List.append_assoc]; exact Lib.hid rfl
         clear BN9 US BE
         go_wp2
         go_roundw
         case rel => exact ⟨b + 1, _, cs9, by go_num, by omega, by omega, S9, by omega, N9⟩
         case measure => simp [intOf]; omega
        ·rw [if_neg hx, List.append_nil] at US
         have hx' : ¬ x = y := fun e => hx e.symm
         go_wp2_with fail
         refine wp_region_held_drew (S := fun W => c < W.heap.size ∧ W.cell? ⟨c, a * 2, none⟩ = some (.int .i64 x) ∧ W.cell? ⟨c, b * 2, none⟩ = some (.int .i64 y)) (by kernel_rfl) ?_ (fun hHeld => ?_)
         ·exact KS.out
         refine tw (i := 0) rfl ?_
         refine tw (i := 1) rfl ?_
         try simp only [Act.put, setIfInBounds_toArray, set_cons_zero, set_cons_succ, getElem_toArray, getElem_cons_succ, getElem_cons_zero]
         refine tw (i := 2) rfl ?_
         refine tw (i := 3) rfl ?_
         try simp only [Act.put, setIfInBounds_toArray, set_cons_zero, set_cons_succ, getElem_toArray, getElem_cons_succ, getElem_cons_zero]
         refine tw (i := 4) rfl ?_
         refine tw (i := 5) rfl ?_
         try simp only [Act.put, setIfInBounds_toArray, set_cons_zero, set_cons_succ, getElem_toArray, getElem_cons_succ, getElem_cons_zero]
         refine tw (i := 6) rfl ?_
         refine tw (i := 7) rfl ?_
         try simp only [Act.put, setIfInBounds_toArray, set_cons_zero, set_cons_succ, getElem_toArray, getElem_cons_succ, getElem_cons_zero]
         refine tw (i := 8) rfl ?_
         refine tw (i := 9) rfl ?_
         try simp only [Act.put, setIfInBounds_toArray, set_cons_zero, set_cons_succ, getElem_toArray, getElem_cons_succ, getElem_cons_zero]
         refine tw (i := 10) rfl ?_
         try simp only [Act.put, setIfInBounds_toArray, set_cons_zero, set_cons_succ, getElem_toArray, getElem_cons_succ, getElem_cons_zero]
         refine wpAnyH_done (by kernel_rfl) ?_ _
         generalize wr.drew = wd at *
         clear KS
         have N9 : Hid (bareC es = bareC ds ++ twoL V a (b + 1 - (a + 1)) x) := by rw [US.out]; exact BE
         go_wp2
         go_roundw
         case rel => exact ⟨b + 1, _, es, by go_num, by omega, by omega, SD, by omega, N9⟩
         case measure => simp [intOf]; omega
       ·have g2' : ¬ (b : Int) < (nV : Int) := by omega
        have eb : b = nV := by omega
        have N9 : Hid (ids.map (ownA V) ++ twoS (nbF 0 V) = bareC es ++ twoS ((nbF 0 V).drop (a + 1))) := by rw [TS.out, BE.out, eb]; exact Lib.hid rfl
        clear eb BE TS
        go_wp2
        go_roundw
        case rel => exact ⟨a + 1, _, es, by go_num, by omega, SE, by omega, N9⟩
        case measure => simp [intOf]; omega
    ·have g1' : ¬ (a : Int) < (nV : Int) := by omega
     have BC2 := Lib.hid (show bareC ds = ids.map (ownA V) ++ twoS (nbF 0 V) by rw [BC.out, List.drop_of_length_le (by rw [nbF_len, HNV.out]; omega)]; simp [twoS])
     have hdl : ds.length ≤ 2000000000 := by omega
     clear BC hcl
     obtain ⟨wi, rfl⟩ : ∃ wi, wi = wr := ⟨_, rfl⟩
     obtain ⟨vsl, vcap, rfl⟩ := SP.out.v
     obtain ⟨t9, t8, t7⟩ := TB.out _ _ _ SP.out
     go_wp2_with fail
     clear t9 t8 t7
     go_loopw [15] (fun i wr => ∃ (k : Nat) (v : Value) (es : List LCl), i = .int .i64 k ∧ k ≤ pn ∧ Hid (SpS w wB bx nv wr v es) ∧ Hid (BndC es k 0 0) ∧ Hid (bareC es = bareC ds ++ (ps.take k).flatMap (besS ps (nbF 0 V)))) (fun i _ => pn - (intOf i).toNat)
     case atStart => exact ⟨0, _, ds, rfl, Nat.zero_le _, SP, BndC.zero hdl, (by show bareC ds = bareC ds ++ _; simp)⟩
     case round =>
      clear SP
      obtain ⟨k, v, es, rfl, hk, SP, hel, BE⟩ := hrel
      have hk0 : (0 : Int) ≤ (k : Int) := by omega
      obtain ⟨t9, t8, t7⟩ := TB.out _ _ _ SP.out
      by_cases g1 : k < pn
      ·have g1' : (k : Int) < (pn : Int) := by omega
       have hlt : k < ps.length := by rw [HPN.out]; exact g1
       obtain ⟨cp, op, rfl, ZI⟩ : ∃ c o, sl2 = some ⟨c, o, none⟩ ∧ PrAt w c o ps := by
        rcases HP.out with e | h
        ·rw [e] at hlt; simp at hlt
        ·exact h
       have hpl := Nat.lt_of_lt_of_le ZI.lt SP.out.bel.size
       have hc0 := (SP.out.bel.cell ZI.lt).trans (ZI.cell k hlt).1
       have hc1 := (SP.out.bel.cell ZI.lt).trans (ZI.cell k hlt).2.1
       have hc2 := (SP.out.bel.cell ZI.lt).trans (ZI.cell k hlt).2.2
       have IS := Lib.hid (show bareC ds ++ (ps.take (k + 1)).flatMap (besS ps (nbF 0 V)) = bareC es ++ besS ps (nbF 0 V) ps[k] by rw [fm_step _ ps k hlt, BE.out, List.append_assoc])
       obtain ⟨pa, pb, kd, hpe⟩ : ∃ a b c, ps[k] = (a, b, c) := ⟨_, _, _, rfl⟩
       rw [hpe] at hc0 hc1 hc2 IS
       dsimp only at hc0 hc1 hc2
       clear hpe hlt ZI BE
       obtain ⟨wi, rfl⟩ : ∃ wi, wi = wr := ⟨_, rfl⟩
       have HX := Lib.hid (show (wi.alloc (.cells #[.int .i64 pa, .int .i64 pb, .int .i64 kd] 165)).heap[wi.heap.size]? = some (.cells #[.int .i64 pa, .int .i64 pb, .int .i64 kd] 165) from new_at _ _)
       have SQ := Lib.hid (SP.out.below (bA0 wi (.cells #[.int .i64 pa, .int .i64 pb, .int .i64 kd] 165)))
       have hpne : wi.heap.size ≠ bx := by have := SP.out.lt; omega
       obtain ⟨vsl, vcap, rfl⟩ := SP.out.v
       go_wp2_with fail
       generalize wi.alloc (.cells #[.int .i64 pa, .int .i64 pb, .int .i64 kd] 165) = w6 at *
       clear t9 t8 t7 hc0 hc1 hc2 hpl SP
       go_loopw [17] (fun i wq => ∃ (a : Nat) (v : Value) (fs : List LCl), i = .int .i64 a ∧ a ≤ nV ∧ Hid (SpS w wB bx nv wq v fs) ∧ Hid (BndC fs k a 0) ∧ Hid (bareC fs = bareC es ++ besK ps (pa, pb, kd) V a) ∧ Hid (wq.heap[wi.heap.size]? = some (.cells #[.int .i64 pa, .int .i64 pb, .int .i64 kd] 165))) (fun i _ => nV - (intOf i).toNat)
       case atStart => exact ⟨0, _, es, rfl, Nat.zero_le _, SQ, hel, (by show bareC es = bareC es ++ _; rw [besK_zero, List.append_nil]), HX⟩
       case round =>
        clear SQ HX
        obtain ⟨a, v, fs, rfl, ha, SF, hfl, BF, HX⟩ := hrel
        have ha0 : (0 : Int) ≤ (a : Int) := by omega
        by_cases g2 : a < nV
        ·have g2' : (a : Int) < (nV : Int) := by omega
         have hlt : a < V.length := by rw [HNV.out]; exact g2
         obtain ⟨c, rfl, hvc⟩ := PC.out a hlt
         have VA := Lib.hid hvc
         have KS1 := Lib.hid (show bareC es ++ besK ps (pa, pb, kd) V (a + 1) = bareC fs ++ besL ps (pa, pb, kd) V a V[a] nV by rw [besK_step ps _ V a hlt nV (by rw [HNV.out]; exact Nat.le_refl _), BF.out, List.append_assoc])
         have XB := SM.out V[a] (List.getElem_mem hlt)
         generalize V[a] = x at *
         clear hvc
         clear hlt BF
         obtain ⟨x1, x2⟩ := x
         dsimp only at VA XB
         go_wp2_with fail
         go_loopw [18] (fun i wq => ∃ (b : Nat) (v : Value) (gs : List LCl), i = .int .i64 b ∧ b ≤ nV ∧ Hid (SpS w wB bx nv wq v gs) ∧ Hid (BndC gs k a b) ∧ Hid (bareC gs = bareC fs ++ besL ps (pa, pb, kd) V a (x1, x2) b) ∧ Hid (wq.heap[wi.heap.size]? = some (.cells #[.int .i64 pa, .int .i64 pb, .int .i64 kd] 165))) (fun i _ => nV - (intOf i).toNat)
         case atStart => exact ⟨0, _, fs, rfl, Nat.zero_le _, SF, hfl, (by show bareC fs = bareC fs ++ _; rw [besL_zero, List.append_nil]), HX⟩
         case round =>
          clear SF HX
          obtain ⟨b, v, gs, rfl, hb, SG, hgl, BG, HX⟩ := hrel
          have hb0 : (0 : Int) ≤ (b : Int) := by omega
          by_cases g3 : b < nV
          ·have g3' : (b : Int) < (nV : Int) := by omega
           have hlt : b < V.length := by rw [HNV.out]; exact g3
           obtain ⟨c', ec, hvc⟩ := PC.out b hlt
           cases ec
           have VB := Lib.hid hvc
           have LS := Lib.hid (besL_step ps (pa, pb, kd) V a (x1, x2) b hlt)
           have YB := SM.out V[b] (List.getElem_mem hlt)
           generalize V[b] = y at *
           clear hvc
           clear hlt
           obtain ⟨y1, y2⟩ := y
           dsimp only at VB YB
           have BY : Hid (besY ps (pa, pb, kd) a (x1, x2) b (y1, y2) = if x1 = pa ∧ y1 = pb ∧ mayL ps pa x2 pb y2 = false then [[-(a : Int) - 1, -(b : Int) - 1]] else []) := rfl
           have KB : Hid (∀ W v cs, SpS w wB bx nv W v cs → W.heap[wi.heap.size]? = some (.cells #[.int .i64 pa, .int .i64 pb, .int .i64 kd] 165) → c < W.heap.size ∧ wi.heap.size < W.heap.size ∧ w.heap.size < W.heap.size ∧ W.cell? ⟨c, a * 2, none⟩ = some (.int .i64 x1) ∧ W.cell? ⟨c, a * 2 + 1, none⟩ = some (.int .i64 x2) ∧ W.cell? ⟨c, b * 2, none⟩ = some (.int .i64 y1) ∧ W.cell? ⟨c, b * 2 + 1, none⟩ = some (.int .i64 y2) ∧ W.cell? ⟨wi.heap.size, 0, none⟩ = some (.int .i64 pa) ∧ W.cell? ⟨wi.heap.size, 1, none⟩ = some (.int .i64 pb) ∧ W.cell? ⟨w.heap.size, 0, none⟩ = some (.slice sl rn cap) ∧ W.cell? ⟨w.heap.size, 1, none⟩ = some (.slice (some ⟨cp, op, none⟩) pn cap2)) := fun W v cs h1 h2 => by
            obtain ⟨q1, q2, q3⟩ := VA.out W v cs h1
            obtain ⟨-, q4, q5⟩ := VB.out W v cs h1
            obtain ⟨q6, q7, q8⟩ := TB.out W v cs h1
            exact ⟨q1, (Array.getElem?_eq_some_iff.1 h2).1, q6, q2, q3, q4, q5, by simp [World.cell?, h2], by simp [World.cell?, h2], q7, q8⟩
           have SD := Lib.hid SG.out.drew
           have XD := Lib.hid (show wr.drew.heap[wi.heap.size]? = some (.cells #[.int .i64 pa, .int .i64 pb, .int .i64 kd] 165) from HX.out)
           have K0 := Lib.hid (KB.out _ _ _ SD.out XD.out)
           obtain ⟨vsl, vcap, rfl⟩ := SG.out.v
           have hgl2 := hgl.out.big (by omega) (by omega) (by omega)
           clear SG HX
           by_cases hx : x1 = pa
           ·subst hx
            by_cases hy : y1 = pb
            ·subst hy
             have EM := Lib.hid (E3.out x1 x2 y1 y2 wr.drew SD.out.bel XB YB)
             cases hmay : mayL ps x1 x2 y1 y2 with
             | true => as_aux_lemma =>
              rw [hmay] at EM
              rw [if_neg (by rw [hmay]; simp)] at BY
              go_wp2_with fail
              refine wp_region_held_drew (S := fun W => c < W.heap.size ∧ wi.heap.size < W.heap.size ∧ w.heap.size < W.heap.size ∧ W.cell? ⟨c, a * 2, none⟩ = some (.int .i64 x1) ∧ W.cell? ⟨c, a * 2 + 1, none⟩ = some (.int .i64 x2) ∧ W.cell? ⟨c, b * 2, none⟩ = some (.int .i64 y1) ∧ W.cell? ⟨c, b * 2 + 1, none⟩ = some (.int .i64 y2) ∧ W.cell? ⟨wi.heap.size, 0, none⟩ = some (.int .i64 x1) ∧ W.cell? ⟨wi.heap.size, 1, none⟩ = some (.int .i64 y1) ∧ W.cell? ⟨w.heap.size, 0, none⟩ = some (.slice sl rn cap) ∧ W.cell? ⟨w.heap.size, 1, none⟩ = some (.slice (some ⟨cp, op, none⟩) pn cap2)) (by kernel_rfl) ?_ (fun hHeld => ?_)
              ·exact K0.out
              refine tw (i := 0) rfl ?_
              refine tw (i := 1) rfl ?_
              try simp only [Act.put, setIfInBounds_toArray, set_cons_zero, set_cons_succ, getElem_toArray, getElem_cons_succ, getElem_cons_zero]
              refine tw (i := 2) rfl ?_
              refine tw (i := 3) rfl ?_
              try simp only [Act.put, setIfInBounds_toArray, set_cons_zero, set_cons_succ, getElem_toArray, getElem_cons_succ, getElem_cons_zero]
              refine tw (i := 4) rfl ?_
              refine tw (i := 5) rfl ?_
              try simp only [Act.put, setIfInBounds_toArray, set_cons_zero, set_cons_succ, getElem_toArray, getElem_cons_succ, getElem_cons_zero]
              refine tw (i := 6) rfl ?_
              refine tw (i := 7) rfl ?_
              try simp only [Act.put, setIfInBounds_toArray, set_cons_zero, set_cons_succ, getElem_toArray, getElem_cons_succ, getElem_cons_zero]
              refine tw (i := 8) rfl ?_
              refine tw (i := 9) rfl ?_
              try simp only [Act.put, setIfInBounds_toArray, set_cons_zero, set_cons_succ, getElem_toArray, getElem_cons_succ, getElem_cons_zero]
              refine tw (i := 10) rfl ?_
              refine tw (i := 11) rfl ?_
              try simp only [Act.put, setIfInBounds_toArray, set_cons_zero, set_cons_succ, getElem_toArray, getElem_cons_succ, getElem_cons_zero]
              refine tw (i := 12) rfl ?_
              refine tw (i := 13) rfl ?_
              try simp only [Act.put, setIfInBounds_toArray, set_cons_zero, set_cons_succ, getElem_toArray, getElem_cons_succ, getElem_cons_zero]
              refine tw (i := 14) rfl ?_
              refine tw (i := 15) rfl ?_
              try simp only [Act.put, setIfInBounds_toArray, set_cons_zero, set_cons_succ, getElem_toArray, getElem_cons_succ, getElem_cons_zero]
              refine tw (i := 16) rfl ?_
              refine tw (i := 17) rfl ?_
              try simp only [Act.put, setIfInBounds_toArray, set_cons_zero, set_cons_succ, getElem_toArray, getElem_cons_succ, getElem_cons_zero]
              refine tw (i := 18) rfl ?_
              refine tw (i := 19) rfl ?_
              try simp only [Act.put, setIfInBounds_toArray, set_cons_zero, set_cons_succ, getElem_toArray, getElem_cons_succ, getElem_cons_zero]
              refine tw (i := 20) rfl ?_
              refine tw (i := 21) rfl ?_
              try simp only [Act.put, setIfInBounds_toArray, set_cons_zero, set_cons_succ, getElem_toArray, getElem_cons_succ, getElem_cons_zero]
              refine tw (i := 22) rfl ?_
              refine tw (i := 23) rfl ?_
              try simp only [Act.put, setIfInBounds_toArray, set_cons_zero, set_cons_succ, getElem_toArray, getElem_cons_succ, getElem_cons_zero]
              refine tw (i := 24) rfl ?_
              refine tw (i := 25) rfl ?_
              try simp only [Act.put, setIfInBounds_toArray, set_cons_zero, set_cons_succ, getElem_toArray, getElem_cons_succ, getElem_cons_zero]
              refine tw (i := 26) rfl ?_
              refine tw (i := 27) rfl ?_
              try simp only [Act.put, setIfInBounds_toArray, set_cons_zero, set_cons_succ, getElem_toArray, getElem_cons_succ, getElem_cons_zero]
              refine tw (i := 28) rfl ?_
              refine tw (i := 29) rfl ?_
              try simp only [Act.put, setIfInBounds_toArray, set_cons_zero, set_cons_succ, getElem_toArray, getElem_cons_succ, getElem_cons_zero]
              refine tw (i := 30) rfl ?_
              refine tw (i := 31) rfl ?_
              try simp only [Act.put, setIfInBounds_toArray, set_cons_zero, set_cons_succ, getElem_toArray, getElem_cons_succ, getElem_cons_zero]
              refine tw (i := 32) rfl ?_
              refine tw (i := 33) rfl ?_
              try simp only [Act.put, setIfInBounds_toArray, set_cons_zero, set_cons_succ, getElem_toArray, getElem_cons_succ, getElem_cons_zero]
              refine wpAnyH_ready (rs := [34]) (by kernel_rfl) (by simp) ?_
              refine AllReadyH.cons rfl (fun K hK => ?_) AllReadyH.nil
              go_simp
              go_wp2_with (go_at_call 134; refine EM.out.mono ?_; rintro e w7 ⟨rfl, b7⟩)
              have S7 := Lib.hid (SD.out.below b7)
              have X7 := Lib.hid ((b7.block wi.heap.size (Array.getElem?_eq_some_iff.1 XD.out).1).trans XD.out)
              clear b7
              refine hK.out _ _ ?_ (fun hHeld => ?_)
              ·exact KB.out _ _ _ S7.out X7.out
              clear hK K
              refine tw (i := 35) rfl ?_
              refine tw (i := 36) rfl ?_
              try simp only [Act.put, setIfInBounds_toArray, set_cons_zero, set_cons_succ, getElem_toArray, getElem_cons_succ, getElem_cons_zero]
              refine wpAnyH_done (by kernel_rfl) ?_ _
              clear K0 KB EM SD XD
              have N9 : Hid (bareC gs = bareC fs ++ besL ps (x1, y1, kd) V a (x1, x2) (b + 1)) := by rw [LS.out, BY.out, List.append_nil]; exact BG
              go_wp2
              go_roundw
              case rel => exact ⟨b + 1, _, gs, by go_num, by omega, S7, hgl.out.next, N9, X7⟩
              case measure => simp [intOf]; omega
             | false => as_aux_lemma =>
              rw [hmay] at EM
              rw [if_pos ⟨rfl, rfl, hmay⟩] at BY
              go_wp2_with fail
              refine wp_region_held_drew (S := fun W => c < W.heap.size ∧ wi.heap.size < W.heap.size ∧ w.heap.size < W.heap.size ∧ W.cell? ⟨c, a * 2, none⟩ = some (.int .i64 x1) ∧ W.cell? ⟨c, a * 2 + 1, none⟩ = some (.int .i64 x2) ∧ W.cell? ⟨c, b * 2, none⟩ = some (.int .i64 y1) ∧ W.cell? ⟨c, b * 2 + 1, none⟩ = some (.int .i64 y2) ∧ W.cell? ⟨wi.heap.size, 0, none⟩ = some (.int .i64 x1) ∧ W.cell? ⟨wi.heap.size, 1, none⟩ = some (.int .i64 y1) ∧ W.cell? ⟨w.heap.size, 0, none⟩ = some (.slice sl rn cap) ∧ W.cell? ⟨w.heap.size, 1, none⟩ = some (.slice (some ⟨cp, op, none⟩) pn cap2)) (by kernel_rfl) ?_ (fun hHeld => ?_)
              ·exact K0.out
              refine tw (i := 0) rfl ?_
              refine tw (i := 1) rfl ?_
              try simp only [Act.put, setIfInBounds_toArray, set_cons_zero, set_cons_succ, getElem_toArray, getElem_cons_succ, getElem_cons_zero]
              refine tw (i := 2) rfl ?_
              refine tw (i := 3) rfl ?_
              try simp only [Act.put, setIfInBounds_toArray, set_cons_zero, set_cons_succ, getElem_toArray, getElem_cons_succ, getElem_cons_zero]
              refine tw (i := 4) rfl ?_
              refine tw (i := 5) rfl ?_
              try simp only [Act.put, setIfInBounds_toArray, set_cons_zero, set_cons_succ, getElem_toArray, getElem_cons_succ, getElem_cons_zero]
              refine tw (i := 6) rfl ?_
              refine tw (i := 7) rfl ?_
              try simp only [Act.put, setIfInBounds_toArray, set_cons_zero, set_cons_succ, getElem_toArray, getElem_cons_succ, getElem_cons_zero]
              refine tw (i := 8) rfl ?_
              refine tw (i := 9) rfl ?_
              try simp only [Act.put, setIfInBounds_toArray, set_cons_zero, set_cons_succ, getElem_toArray, getElem_cons_succ, getElem_cons_zero]
              refine tw (i := 10) rfl ?_
              refine tw (i := 11) rfl ?_
              try simp only [Act.put, setIfInBounds_toArray, set_cons_zero, set_cons_succ, getElem_toArray, getElem_cons_succ, getElem_cons_zero]
              refine tw (i := 12) rfl ?_
              refine tw (i := 13) rfl ?_
              try simp only [Act.put, setIfInBounds_toArray, set_cons_zero, set_cons_succ, getElem_toArray, getElem_cons_succ, getElem_cons_zero]
              refine tw (i := 14) rfl ?_
              refine tw (i := 15) rfl ?_
              try simp only [Act.put, setIfInBounds_toArray, set_cons_zero, set_cons_succ, getElem_toArray, getElem_cons_succ, getElem_cons_zero]
              refine tw (i := 16) rfl ?_
              refine tw (i := 17) rfl ?_
              try simp only [Act.put, setIfInBounds_toArray, set_cons_zero, set_cons_succ, getElem_toArray, getElem_cons_succ, getElem_cons_zero]
              refine tw (i := 18) rfl ?_
              refine tw (i := 19) rfl ?_
              try simp only [Act.put, setIfInBounds_toArray, set_cons_zero, set_cons_succ, getElem_toArray, getElem_cons_succ, getElem_cons_zero]
              refine tw (i := 20) rfl ?_
              refine tw (i := 21) rfl ?_
              try simp only [Act.put, setIfInBounds_toArray, set_cons_zero, set_cons_succ, getElem_toArray, getElem_cons_succ, getElem_cons_zero]
              refine tw (i := 22) rfl ?_
              refine tw (i := 23) rfl ?_
              try simp only [Act.put, setIfInBounds_toArray, set_cons_zero, set_cons_succ, getElem_toArray, getElem_cons_succ, getElem_cons_zero]
              refine tw (i := 24) rfl ?_
              refine tw (i := 25) rfl ?_
              try simp only [Act.put, setIfInBounds_toArray, set_cons_zero, set_cons_succ, getElem_toArray, getElem_cons_succ, getElem_cons_zero]
              refine tw (i := 26) rfl ?_
              refine tw (i := 27) rfl ?_
              try simp only [Act.put, setIfInBounds_toArray, set_cons_zero, set_cons_succ, getElem_toArray, getElem_cons_succ, getElem_cons_zero]
              refine tw (i := 28) rfl ?_
              refine tw (i := 29) rfl ?_
              try simp only [Act.put, setIfInBounds_toArray, set_cons_zero, set_cons_succ, getElem_toArray, getElem_cons_succ, getElem_cons_zero]
              refine tw (i := 30) rfl ?_
              refine tw (i := 31) rfl ?_
              try simp only [Act.put, setIfInBounds_toArray, set_cons_zero, set_cons_succ, getElem_toArray, getElem_cons_succ, getElem_cons_zero]
              refine tw (i := 32) rfl ?_
              refine tw (i := 33) rfl ?_
              try simp only [Act.put, setIfInBounds_toArray, set_cons_zero, set_cons_succ, getElem_toArray, getElem_cons_succ, getElem_cons_zero]
              refine wpAnyH_ready (rs := [34]) (by kernel_rfl) (by simp) ?_
              refine AllReadyH.cons rfl (fun K hK => ?_) AllReadyH.nil
              go_simp
              go_wp2_with (go_at_call 134; refine EM.out.mono ?_; rintro e w7 ⟨rfl, b7⟩)
              have S7 := Lib.hid (SD.out.below b7)
              have X7 := Lib.hid ((b7.block wi.heap.size (Array.getElem?_eq_some_iff.1 XD.out).1).trans XD.out)
              clear b7
              refine hK.out _ _ ?_ (fun hHeld => ?_)
              ·exact KB.out _ _ _ S7.out X7.out
              clear hK K
              refine tw (i := 35) rfl ?_
              refine tw (i := 36) rfl ?_
              try simp only [Act.put, setIfInBounds_toArray, set_cons_zero, set_cons_succ, getElem_toArray, getElem_cons_succ, getElem_cons_zero]
              refine wpAnyH_done (by kernel_rfl) ?_ _
              clear K0 KB EM SD XD
              obtain ⟨wd, rfl⟩ : ∃ wd, wd = w7 := ⟨_, rfl⟩
              have SD := S7
              have XD := X7
              clear S7 X7
              have ON := Lib.hid ((own_two wd (-(a : Int) - 1) (-(b : Int) - 1)).alloc (.cells #[.slice (some ⟨wd.heap.size, 0, none⟩) 2 2] 34))
              have CVV := Lib.hid ((SD.out.own.row.alloc (.cells #[.int .i64 (-(a : Int) - 1), .int .i64 (-(b : Int) - 1)] 2)).alloc (.cells #[.slice (some ⟨wd.heap.size, 0, none⟩) 2 2] 34))
              have BAA := Lib.hid (bA (bA0 wd (.cells #[.int .i64 (-(a : Int) - 1), .int .i64 (-(b : Int) - 1)] 2)) (.cells #[.slice (some ⟨wd.heap.size, 0, none⟩) 2 2] 34))
              have hles := SD.out.le
              obtain ⟨z0, z1, z2⟩ := SD.out.cell
              have z3 := SD.out.lt
              go_wp2_with (first | (at_builtin; refine wpList_append_lies _ rfl (.tmp 165) (.tmp 173) 31 rfl wB.heap.size 34 i4 (.slice none 0 0) 1 24 Tryz.underlying31 hi4 hd0 hd1 hd2 rfl (by decide) _ _ _ rfl CVV.out ⟨wd.heap.size + 1, 0, none⟩ 1 1 [.slice (some ⟨wd.heap.size, 0, none⟩) 2 2] (by simp [Act.eval]) rfl (cell_at_new' wd _ _ _) (by intro u hu; simp at hu; subst hu; rfl) (by decide) (by unfold maxLen; omega) (by omega) (by simp; omega) (wd.heap.size + 2) (by simp) ?_))
              intro g9 cap9 w9 own9 grow9 hg9 hlt9
              have S9 : Hid (SpS w wB bx nv (w9.setCell ⟨bx, 1, none⟩ (.slice (some ⟨g9, 0, none⟩) (gs.length + 1) cap9)) (.slice (some ⟨g9, 0, none⟩) (gs.length + 1) cap9) (gs ++ [(.slice (some ⟨wd.heap.size, 0, none⟩) 2 2, [(-(a : Int) - 1), (-(b : Int) - 1)])])) := SD.out.add BAA.out (own_mono ON.out hles) (fun j hj => (ON.out.lt j hj).1) grow9 own9
              obtain ⟨yy0, yy1, yy2⟩ := SD.out.mid BAA.out grow9
              have X9 := Lib.hid (SD.out.blk (v9 := .slice (some ⟨g9, 0, none⟩) (gs.length + 1) cap9) BAA.out grow9 XD.out (by decide) hpne)
              have L9 : (gs ++ [((Value.slice (some ⟨wd.heap.size, 0, none⟩) 2 2, [(-(a : Int) - 1), (-(b : Int) - 1)]) : LCl)]).length = gs.length + 1 := by simp
              have BN9 := Lib.hid (show bareC (gs ++ [((Value.slice (some ⟨wd.heap.size, 0, none⟩) 2 2, [(-(a : Int) - 1), (-(b : Int) - 1)]) : LCl)]) = bareC gs ++ [[(-(a : Int) - 1), (-(b : Int) - 1)]] by rw [bareC_add]; rfl)
              clear own9 grow9 hg9 hlt9 ON CVV BAA SD z0 z1 z2 z3
              generalize gs ++ [((Value.slice (some ⟨wd.heap.size, 0, none⟩) 2 2, [(-(a : Int) - 1), (-(b : Int) - 1)]) : LCl)] = cs9 at *
              have N9 : Hid (bareC cs9 = bareC fs ++ besL ps (x1, y1, kd) V a (x1, x2) (b + 1)) := by rw [LS.out, BY.out, BN9.out, BG.out, List.append_assoc]; exact Lib.hid rfl
              clear BN9 LS BG BY
              go_wp2
              go_roundw
              case rel => exact ⟨b + 1, _, cs9, by go_num, by omega, S9, hgl.out.more L9, N9, X9⟩
              case measure => simp [intOf]; omega
            ·as_aux_lemma =>
              rw [if_neg (fun h => hy h.2.1)] at BY
              have hyb : (y1 == pb) = false := by simpa using hy
              go_wp2_with fail
              refine wp_region_held_drew (S := fun W => c < W.heap.size ∧ wi.heap.size < W.heap.size ∧ w.heap.size < W.heap.size ∧ W.cell? ⟨c, a * 2, none⟩ = some (.int .i64 x1) ∧ W.cell? ⟨c, a * 2 + 1, none⟩ = some (.int .i64 x2) ∧ W.cell? ⟨c, b * 2, none⟩ = some (.int .i64 y1) ∧ W.cell? ⟨c, b * 2 + 1, none⟩ = some (.int .i64 y2) ∧ W.cell? ⟨wi.heap.size, 0, none⟩ = some (.int .i64 x1) ∧ W.cell? ⟨wi.heap.size, 1, none⟩ = some (.int .i64 pb) ∧ W.cell? ⟨w.heap.size, 0, none⟩ = some (.slice sl rn cap) ∧ W.cell? ⟨w.heap.size, 1, none⟩ = some (.slice (some ⟨cp, op, none⟩) pn cap2)) (by kernel_rfl) ?_ (fun hHeld => ?_)
              ·exact K0.out
              refine tw (i := 0) rfl ?_
              refine tw (i := 1) rfl ?_
              try simp only [Act.put, setIfInBounds_toArray, set_cons_zero, set_cons_succ, getElem_toArray, getElem_cons_succ, getElem_cons_zero]
              refine tw (i := 2) rfl ?_
              refine tw (i := 3) rfl ?_
              try simp only [Act.put, setIfInBounds_toArray, set_cons_zero, set_cons_succ, getElem_toArray, getElem_cons_succ, getElem_cons_zero]
              refine tw (i := 4) rfl ?_
              refine tw (i := 5) rfl ?_
              try simp only [Act.put, setIfInBounds_toArray, set_cons_zero, set_cons_succ, getElem_toArray, getElem_cons_succ, getElem_cons_zero]
              refine tw (i := 6) rfl ?_
              refine tw (i := 7) rfl ?_
              try simp only [Act.put, setIfInBounds_toArray, set_cons_zero, set_cons_succ, getElem_toArray, getElem_cons_succ, getElem_cons_zero]
              refine tw (i := 8) rfl ?_
              refine tw (i := 9) rfl ?_
              try simp only [Act.put, setIfInBounds_toArray, set_cons_zero, set_cons_succ, getElem_toArray, getElem_cons_succ, getElem_cons_zero]
              refine tw (i := 10) rfl ?_
              refine tw (i := 11) rfl ?_
              try simp only [Act.put, setIfInBounds_toArray, set_cons_zero, set_cons_succ, getElem_toArray, getElem_cons_succ, getElem_cons_zero]
              refine tw (i := 12) rfl ?_
              refine tw (i := 13) rfl ?_
              try simp only [Act.put, setIfInBounds_toArray, set_cons_zero, set_cons_succ, getElem_toArray, getElem_cons_succ, getElem_cons_zero]
              refine tw (i := 14) rfl ?_
              refine tw (i := 15) rfl ?_
              try simp only [Act.put, setIfInBounds_toArray, set_cons_zero, set_cons_succ, getElem_toArray, getElem_cons_succ, getElem_cons_zero]
              refine tw (i := 16) rfl ?_
              try simp only [Act.put, setIfInBounds_toArray, set_cons_zero, set_cons_succ, getElem_toArray, getElem_cons_succ, getElem_cons_zero]
              try rw [hyb]
              refine tw (i := 17) rfl ?_
              refine tw (i := 18) rfl ?_
              try simp only [Act.put, setIfInBounds_toArray, set_cons_zero, set_cons_succ, getElem_toArray, getElem_cons_succ, getElem_cons_zero]
              refine ts (i := 19) rfl ?_
              refine ts (i := 20) rfl ?_
              try simp only [Act.put, setIfInBounds_toArray, set_cons_zero, set_cons_succ, getElem_toArray, getElem_cons_succ, getElem_cons_zero]
              refine ts (i := 21) rfl ?_
              refine ts (i := 22) rfl ?_
              try simp only [Act.put, setIfInBounds_toArray, set_cons_zero, set_cons_succ, getElem_toArray, getElem_cons_succ, getElem_cons_zero]
              refine ts (i := 23) rfl ?_
              refine ts (i := 24) rfl ?_
              try simp only [Act.put, setIfInBounds_toArray, set_cons_zero, set_cons_succ, getElem_toArray, getElem_cons_succ, getElem_cons_zero]
              refine ts (i := 25) rfl ?_
              refine ts (i := 26) rfl ?_
              try simp only [Act.put, setIfInBounds_toArray, set_cons_zero, set_cons_succ, getElem_toArray, getElem_cons_succ, getElem_cons_zero]
              refine ts (i := 27) rfl ?_
              refine ts (i := 28) rfl ?_
              try simp only [Act.put, setIfInBounds_toArray, set_cons_zero, set_cons_succ, getElem_toArray, getElem_cons_succ, getElem_cons_zero]
              refine ts (i := 29) rfl ?_
              refine ts (i := 30) rfl ?_
              try simp only [Act.put, setIfInBounds_toArray, set_cons_zero, set_cons_succ, getElem_toArray, getElem_cons_succ, getElem_cons_zero]
              refine ts (i := 31) rfl ?_
              refine ts (i := 32) rfl ?_
              try simp only [Act.put, setIfInBounds_toArray, set_cons_zero, set_cons_succ, getElem_toArray, getElem_cons_succ, getElem_cons_zero]
              refine ts (i := 33) rfl ?_
              refine ts (i := 34) rfl ?_
              try simp only [Act.put, setIfInBounds_toArray, set_cons_zero, set_cons_succ, getElem_toArray, getElem_cons_succ, getElem_cons_zero]
              refine ts (i := 35) rfl ?_
              refine tw (i := 36) rfl ?_
              try simp only [Act.put, setIfInBounds_toArray, set_cons_zero, set_cons_succ, getElem_toArray, getElem_cons_succ, getElem_cons_zero]
              refine wpAnyH_done (by kernel_rfl) ?_ _
              generalize wr.drew = wd at *
              clear K0 KB
              have N9 : Hid (bareC gs = bareC fs ++ besL ps (x1, pb, kd) V a (x1, x2) (b + 1)) := by rw [LS.out, BY.out, List.append_nil]; exact BG
              go_wp2
              go_roundw
              case rel => exact ⟨b + 1, _, gs, by go_num, by omega, SD, hgl.out.next, N9, XD⟩
              case measure => simp [intOf]; omega
           ·as_aux_lemma =>
             rw [if_neg (fun h => hx h.1)] at BY
             have hxb : (x1 == pa) = false := by simpa using hx
             go_wp2_with fail
             refine wp_region_held_drew (S := fun W => c < W.heap.size ∧ wi.heap.size < W.heap.size ∧ w.heap.size < W.heap.size ∧ W.cell? ⟨c, a * 2, none⟩ = some (.int .i64 x1) ∧ W.cell? ⟨c, a * 2 + 1, none⟩ = some (.int .i64 x2) ∧ W.cell? ⟨c, b * 2, none⟩ = some (.int .i64 y1) ∧ W.cell? ⟨c, b * 2 + 1, none⟩ = some (.int .i64 y2) ∧ W.cell? ⟨wi.heap.size, 0, none⟩ = some (.int .i64 pa) ∧ W.cell? ⟨wi.heap.size, 1, none⟩ = some (.int .i64 pb) ∧ W.cell? ⟨w.heap.size, 0, none⟩ = some (.slice sl rn cap) ∧ W.cell? ⟨w.heap.size, 1, none⟩ = some (.slice (some ⟨cp, op, none⟩) pn cap2)) (by kernel_rfl) ?_ (fun hHeld => ?_)
             ·exact K0.out
             refine tw (i := 0) rfl ?_
             refine tw (i := 1) rfl ?_
             try simp only [Act.put, setIfInBounds_toArray, set_cons_zero, set_cons_succ, getElem_toArray, getElem_cons_succ, getElem_cons_zero]
             refine tw (i := 2) rfl ?_
             refine tw (i := 3) rfl ?_
             try simp only [Act.put, setIfInBounds_toArray, set_cons_zero, set_cons_succ, getElem_toArray, getElem_cons_succ, getElem_cons_zero]
             refine tw (i := 4) rfl ?_
             refine tw (i := 5) rfl ?_
             try simp only [Act.put, setIfInBounds_toArray, set_cons_zero, set_cons_succ, getElem_toArray, getElem_cons_succ, getElem_cons_zero]
             refine tw (i := 6) rfl ?_
             refine tw (i := 7) rfl ?_
             try simp only [Act.put, setIfInBounds_toArray, set_cons_zero, set_cons_succ, getElem_toArray, getElem_cons_succ, getElem_cons_zero]
             try rw [hxb]
             refine tw (i := 8) rfl ?_
             refine ts (i := 9) rfl ?_
             try simp only [Act.put, setIfInBounds_toArray, set_cons_zero, set_cons_succ, getElem_toArray, getElem_cons_succ, getElem_cons_zero]
             refine ts (i := 10) rfl ?_
             refine ts (i := 11) rfl ?_
             try simp only [Act.put, setIfInBounds_toArray, set_cons_zero, set_cons_succ, getElem_toArray, getElem_cons_succ, getElem_cons_zero]
             refine ts (i := 12) rfl ?_
             refine ts (i := 13) rfl ?_
             try simp only [Act.put, setIfInBounds_toArray, set_cons_zero, set_cons_succ, getElem_toArray, getElem_cons_succ, getElem_cons_zero]
             refine ts (i := 14) rfl ?_
             refine ts (i := 15) rfl ?_
             try simp only [Act.put, setIfInBounds_toArray, set_cons_zero, set_cons_succ, getElem_toArray, getElem_cons_succ, getElem_cons_zero]
             refine ts (i := 16) rfl ?_
             refine tw (i := 17) rfl ?_
             try simp only [Act.put, setIfInBounds_toArray, set_cons_zero, set_cons_succ, getElem_toArray, getElem_cons_succ, getElem_cons_zero]
             refine tw (i := 18) rfl ?_
             refine ts (i := 19) rfl ?_
             try simp only [Act.put, setIfInBounds_toArray, set_cons_zero, set_cons_succ, getElem_toArray, getElem_cons_succ, getElem_cons_zero]
             refine ts (i := 20) rfl ?_
             refine ts (i := 21) rfl ?_
             try simp only [Act.put, setIfInBounds_toArray, set_cons_zero, set_cons_succ, getElem_toArray, getElem_cons_succ, getElem_cons_zero]
             refine ts (i := 22) rfl ?_
             refine ts (i := 23) rfl ?_
             try simp only [Act.put, setIfInBounds_toArray, set_cons_zero, set_cons_succ, getElem_toArray, getElem_cons_succ, getElem_cons_zero]
             refine ts (i := 24) rfl ?_
             refine ts (i := 25) rfl ?_
             try simp only [Act.put, setIfInBounds_toArray, set_cons_zero, set_cons_succ, getElem_toArray, getElem_cons_succ, getElem_cons_zero]
             refine ts (i := 26) rfl ?_
             refine ts (i := 27) rfl ?_
             try simp only [Act.put, setIfInBounds_toArray, set_cons_zero, set_cons_succ, getElem_toArray, getElem_cons_succ, getElem_cons_zero]
             refine ts (i := 28) rfl ?_
             refine ts (i := 29) rfl ?_
             try simp only [Act.put, setIfInBounds_toArray, set_cons_zero, set_cons_succ, getElem_toArray, getElem_cons_succ, getElem_cons_zero]
             refine ts (i := 30) rfl ?_
             refine ts (i := 31) rfl ?_
             try simp only [Act.put, setIfInBounds_toArray, set_cons_zero, set_cons_succ, getElem_toArray, getElem_cons_succ, getElem_cons_zero]
             refine ts (i := 32) rfl ?_
             refine ts (i := 33) rfl ?_
             try simp only [Act.put, setIfInBounds_toArray, set_cons_zero, set_cons_succ, getElem_toArray, getElem_cons_succ, getElem_cons_zero]
             refine ts (i := 34) rfl ?_
             refine ts (i := 35) rfl ?_
             try simp only [Act.put, setIfInBounds_toArray, set_cons_zero, set_cons_succ, getElem_toArray, getElem_cons_succ, getElem_cons_zero]
             refine tw (i := 36) rfl ?_
             try simp only [Act.put, setIfInBounds_toArray, set_cons_zero, set_cons_succ, getElem_toArray, getElem_cons_succ, getElem_cons_zero]
             refine wpAnyH_done (by kernel_rfl) ?_ _
             generalize wr.drew = wd at *
             clear K0 KB
             have N9 : Hid (bareC gs = bareC fs ++ besL ps (pa, pb, kd) V a (x1, x2) (b + 1)) := by rw [LS.out, BY.out, List.append_nil]; exact BG
             go_wp2
             go_roundw
             case rel => exact ⟨b + 1, _, gs, by go_num, by omega, SD, hgl.out.next, N9, XD⟩
             case measure => simp [intOf]; omega
          ·have g3' : ¬ (b : Int) < (nV : Int) := by omega
           have eb : b = nV := by omega
           have N9 : Hid (bareC gs = bareC es ++ besK ps (pa, pb, kd) V (a + 1)) := by rw [KS1.out, BG.out, eb]; exact Lib.hid rfl
           clear eb BG KS1
           go_wp2
           go_roundw
           case rel => exact ⟨a + 1, _, gs, by go_num, by omega, SG, hgl.out.row (by omega), N9, HX⟩
           case measure => simp [intOf]; omega
        ·have g2' : ¬ (a : Int) < (nV : Int) := by omega
         have N9 : Hid (bareC fs = bareC ds ++ (ps.take (k + 1)).flatMap (besS ps (nbF 0 V))) := by rw [IS.out, BF.out, besK_all ps _ V a (by rw [HNV.out]; omega)]; exact Lib.hid rfl
         clear BF IS HX
         go_wp2
         go_roundw
         case rel => exact ⟨k + 1, _, fs, by go_num, by omega, SF, hfl.out.pair (Nat.zero_le _) (by omega), N9⟩
         case measure => simp [intOf]; omega
      ·have g1' : ¬ (k : Int) < (pn : Int) := by omega
       have BF := Lib.hid (show bareC es = cnA rs ps top ids by rw [BE.out, BC2.out, CA.out, List.take_of_length_le (by rw [HPN.out]; omega), List.append_assoc])
       obtain ⟨rl, r0, r1, f0, f1⟩ := (RB.out _ _ _ SP.out).facts
       obtain ⟨z0, z1, z2⟩ := SP.out.cell
       have z3 := SP.out.lt
       obtain ⟨vsl, vcap, rfl⟩ := SP.out.v
       have hwB := SP.out.h2
       have P : Hid (OwC ((wr.setCell ⟨w.heap.size + 1, 0, none⟩ (.int .i64 nv)).setCell ⟨w.heap.size + 1, 1, none⟩ (.slice vsl es.length vcap)) w.heap.size (.slice vsl es.length vcap) es ∧ bareC es = cnA rs ps top ids ∧ Below w.heap.size w ((wr.setCell ⟨w.heap.size + 1, 0, none⟩ (.int .i64 nv)).setCell ⟨w.heap.size + 1, 1, none⟩ (.slice vsl es.length vcap))) :=
        ⟨((SP.out.own.set (by omega) _ _).set (by omega) _ _).mono (by omega), BF.out, (SP.out.bel.setCell (Nat.le_add_right _ 1) _).setCell (Nat.le_add_right _ 1) _⟩
       clear SP BE BF BC2
       generalize es.length = ne at *
       go_wp2
       refine bodyPost_ret (v := .agg #[.int .i64 nv, .slice vsl ne vcap]) (by simp [results, Tryz.results72, go_sem, r0, r1]) rfl ⟨_, by rw [HNv.out], es, P.out⟩
end Go.Proofs.YtnihhbfgbilimaaGreatDoor
