/-
  THE PLAN OF TRUES: impl.PlanOf.
-/
import Derived.Test.YtdmfljejlhlbnaaVa
namespace Go.Proofs.Ytdmfljejlhlbnaa
open Go.RowKit
set_option linter.unusedVariables false

/-- The places that the trues stand for. -/
def poP (qs : List LPl) (ts : List Int) : List LPl := ts.map fun v => qs.getD (v - 1).toNat (0, 0)
def PoOK (rs : List LSt) (ps : List LPr) (top : Int) (ids ts : List Int) : Prop := ts.length ≤ 400 ∧ IdsR rs ps ids ∧ InRise 1 (plF rs top ids).length ts ∧ pidsL (poP (plF rs top ids) ts) = ids
/-- What PlanOf answers. -/
noncomputable def poA (rs : List LSt) (ps : List LPr) (top : Int) (ids ts : List Int) : List LPl := if B (PoOK rs ps top ids ts) = true then poP (plF rs top ids) ts else []
theorem poA_no {rs : List LSt} {ps : List LPr} {top : Int} {ids ts : List Int} (h : ¬ PoOK rs ps top ids ts) : poA rs ps top ids ts = [] := by unfold poA; rw [B_no h]; rfl
theorem poA_yes {rs : List LSt} {ps : List LPr} {top : Int} {ids ts : List Int} (h : PoOK rs ps top ids ts) : poA rs ps top ids ts = poP (plF rs top ids) ts := by unfold poA; rw [B_yes h]; rfl
theorem poP_step (qs : List LPl) (ts : List Int) (k : Nat) (h : k < ts.length) : poP qs (ts.take (k + 1)) = poP qs (ts.take k) ++ [qs.getD (ts.getD k 0 - 1).toNat (0, 0)] := by
  unfold poP
  rw [List.take_succ_eq_append_getElem h, List.map_append]
  simp [h]
theorem pls_of {w : World} {sl : Option Addr} {pl : List LPl} {B : Nat} (h : pl = [] ∨ ∃ c, sl = some ⟨c, 0, none⟩ ∧ PlAt w c 0 pl ∧ B ≤ c) : Pls w sl pl := by
  rcases h with h | ⟨c, e, p, _⟩
  · exact .inl h
  · exact .inr ⟨c, 0, e, p⟩

set_option maxRecDepth 100000 in
set_option maxHeartbeats 4000000 in
/-- impl.PlanOf. -/
theorem ipo_any (sl : Option Addr) (cap : Nat) (sl2 : Option Addr) (cap2 : Nat) (sl3 : Option Addr) (cap3 : Nat) (sl4 : Option Addr) (cap4 : Nat) (rs : List LSt) (ps : List LPr) (ids ts : List Int) (top : Int) (w : World) (hn : rs.length ≤ 1048576) (hl : ids.length ≤ maxLen) (hm : ts.length ≤ maxLen) (hz : Sts w sl rs) (hp : Prs w sl2 ps) (hw : ∀ p ∈ ps, WfP p) (hi : Ints w sl3 ids) (ht : Ints w sl4 ts) :
    Calls Try.prog 32 #[TV sl rs.length cap sl2 ps.length cap2, .int .i64 top, .slice sl3 ids.length cap3, .slice sl4 ts.length cap4] w fun e w' => ∃ v, e = .returned v ∧ w'.ownsRow w.heap.size 34 2 v (poA rs ps top ids ts).length (enCells (poA rs ps top ids ts)) ∧ Below w.heap.size w w' := by
  obtain ⟨i3, hi3, hd0, hd1, hd2⟩ := info_parts info34
  have HT := Lib.hid (TabAt.new w sl rs.length cap sl2 ps.length cap2)
  have B0 := Lib.hid (bA0 w (.cells #[.slice sl rs.length cap, .slice sl2 ps.length cap2] 26))
  have E1 : Hid (∀ W, Below w.heap.size w W → Calls Try.prog 77 #[TV sl rs.length cap sl2 ps.length cap2, .slice sl3 ids.length cap3] W fun e w' => e = .returned (.bool (B (IdsR rs ps ids))) ∧ Below W.heap.size W w') := fun W hW => iir_any sl cap sl2 cap2 sl3 cap3 rs ps ids W hn hl (hz.below hW) (hp.below hW) hw (hi.below hW)
  have E2 : Hid (∀ q : Int, ∀ W, Below w.heap.size w W → Calls Try.prog 92 #[.slice sl4 ts.length cap4, .int .i64 1, .int .i64 q] W fun e w' => e = .returned (.bool (B (InRise 1 q ts))) ∧ Below W.heap.size W w') := fun q W hW => rw_any 1 q sl4 cap4 ts W hm (ht.below hW)
  unfold maxLen at hl hm
  by_cases h4 : 400 < ts.length
  · have h4' : (400 : Int) < (ts.length : Int) := by omega
    rw [poA_no (fun g => by have := g.1; omega)]
    clear hz hp hw hi ht E1 E2 HT
    generalize rs.length = rn at *
    generalize ps.length = pn at *
    generalize ids.length = n at *
    generalize ts.length = m at *
    go_enter Try.func32, Try.ntmps32
    go_wp2
    go_ret
    exact ⟨_, rfl, ⟨rfl, .inl ⟨rfl, rfl⟩⟩, B0.out⟩
  have h4' : ¬ (400 : Int) < (ts.length : Int) := by omega
  cases hb : B (IdsR rs ps ids) with
  | false =>
    rw [poA_no (fun g => B_false hb g.2.1)]
    rw [hb] at E1
    clear hb hz hp hw hi ht E2 HT
    generalize rs.length = rn at *
    generalize ps.length = pn at *
    generalize ids.length = n at *
    generalize ts.length = m at *
    go_enter Try.func32, Try.ntmps32
    go_wp2_with fail
    refine (E1.out _ B0.out).mono ?_
    rintro e w1 ⟨rfl, b1⟩
    have D1 := Lib.hid (bT B0.out b1)
    clear b1 E1
    go_wp2
    go_ret
    exact ⟨_, rfl, ⟨rfl, .inl ⟨rfl, rfl⟩⟩, D1.out⟩
  | true =>
    rw [hb] at E1
    have IR := B_true hb
    have hpl : (plF rs top ids).length ≤ 38400 := by
      have := plF_le top ids IR.2.1
      have := IR.1
      omega
    have E3 : Hid (∀ W, Below w.heap.size w W → Calls Try.prog 82 #[TV sl rs.length cap sl2 ps.length cap2, .int .i64 top, .slice sl3 ids.length cap3] W fun e w' => ∃ b rows, e = .returned (.slice (some ⟨b, 0, none⟩) ids.length ids.length) ∧ rows.map (fun r => r.2) = ids.map (chF rs top) ∧ Rws w' (some ⟨b, 0, none⟩) rows ∧ Below W.heap.size W w') := fun W hW => ch_any sl cap sl2 cap2 sl3 cap3 rs ps top ids W IR.1 (hz.below hW) IR.2.1 (hi.below hW)
    have E4 : Hid (∀ b rows W, rows.map (fun r => r.2) = ids.map (chF rs top) → Rws W (some ⟨b, 0, none⟩) rows → Calls Try.prog 81 #[.slice (some ⟨b, 0, none⟩) ids.length ids.length] W fun e w' => ∃ s c, e = .returned (.slice s (plF rs top ids).length c) ∧ (plF rs top ids = [] ∨ ∃ c, s = some ⟨c, 0, none⟩ ∧ PlAt w' c 0 (plF rs top ids) ∧ W.heap.size ≤ c) ∧ Below W.heap.size W w') := fun b rows W er r => by
      have hl' : rows.length = ids.length := by have := congrArg List.length er; simpa using this
      have := cat_any (some ⟨b, 0, none⟩) ids.length rows W (by rw [hl']; have := IR.1; omega) (by rw [flatR_map er]; omega) r
      rw [hl', flatR_map er] at this
      refine this.mono ?_
      rintro e w' ⟨v, rfl, o, bl⟩
      obtain ⟨s, c, rfl, h⟩ := own_pls o
      exact ⟨s, c, rfl, h, bl⟩
    have h400 := IR.1
    have E5 : Hid (∀ zs s c W, Below w.heap.size w W → zs.length ≤ 400 → Ints W s zs → Calls Try.prog 94 #[.slice s zs.length c, .slice sl3 ids.length cap3] W fun e w' => e = .returned (.bool (B (zs = ids))) ∧ Below W.heap.size W w') := fun zs s c W hW h i => eqz_any s c zs sl3 cap3 ids W (by omega) (by omega) i (hi.below hW)
    cases hc : B (InRise 1 (plF rs top ids).length ts) with
    | false =>
      rw [poA_no (fun g => B_false hc g.2.2.1)]
      have E2' : Hid (∀ W, Below w.heap.size w W → Calls Try.prog 92 #[.slice sl4 ts.length cap4, .int .i64 1, .int .i64 ((plF rs top ids).length : Int)] W fun e w' => e = .returned (.bool false) ∧ Below W.heap.size W w') := fun W hW => by
        have := E2.out ((plF rs top ids).length : Int) W hW
        rwa [hc] at this
      clear hb hc hz hp hw hi ht IR E2 E5
      generalize plF rs top ids = qs at *
      generalize rs.length = rn at *
      generalize ps.length = pn at *
      generalize ids.length = n at *
      generalize ts.length = m at *
      generalize qs.length = q at *
      go_enter Try.func32, Try.ntmps32
      go_wp2_with fail
      refine (E1.out _ B0.out).mono ?_
      rintro e w1 ⟨rfl, b1⟩
      have D1 := Lib.hid (bT B0.out b1)
      have TA := HT.out.below b1
      obtain ⟨t0, t1⟩ := TA.cells
      have tl := TA.lt
      clear b1 E1 TA
      go_wp2_with fail
      refine (E3.out _ D1.out).mono ?_
      rintro e w2 ⟨b4, rows, rfl, er, r4, bl4⟩
      have D2 := Lib.hid (bT D1.out bl4)
      have T4 := Lib.hid (E4.out b4 rows _ er r4)
      clear bl4 er r4 E3 t0 t1 tl
      go_wp2_with fail
      refine T4.out.mono ?_
      rintro e w5 ⟨s5, c5, rfl, -, b5⟩
      have D5 := Lib.hid (bT D2.out b5)
      clear b5 T4
      go_wp2_with fail
      refine (E2'.out _ D5.out).mono ?_
      rintro e w6 ⟨rfl, b6⟩
      have D6 := Lib.hid (bT D5.out b6)
      clear b6 E2'
      go_wp2
      go_ret
      exact ⟨_, rfl, ⟨rfl, .inl ⟨rfl, rfl⟩⟩, D6.out⟩
    | true =>
      have IT := Lib.hid (B_true hc)
      have E2' : Hid (∀ W, Below w.heap.size w W → Calls Try.prog 92 #[.slice sl4 ts.length cap4, .int .i64 1, .int .i64 ((plF rs top ids).length : Int)] W fun e w' => e = .returned (.bool true) ∧ Below W.heap.size W w') := fun W hW => by
        have := E2.out ((plF rs top ids).length : Int) W hW
        rwa [hc] at this
      have YY := Lib.hid (show pidsL (poP (plF rs top ids) ts) = ids → poA rs ps top ids ts = poP (plF rs top ids) ts from fun e => poA_yes ⟨by omega, IR, IT.out, e⟩)
      have NN := Lib.hid (show ¬ pidsL (poP (plF rs top ids) ts) = ids → poA rs ps top ids ts = [] from fun e => poA_no (fun g => e g.2.2.2))
      have HTS := Lib.hid ht
      clear hb hc hz hp hw hi ht IR E2
      generalize poA rs ps top ids ts = ans at *
      generalize plF rs top ids = qs at *
      generalize rs.length = rn at *
      generalize ps.length = pn at *
      generalize ids.length = n at *
      generalize hM : ts.length = m at *
      have HM := Lib.hid hM
      clear hM
      generalize hQ : qs.length = q at *
      have HQ := Lib.hid hQ
      clear hQ
      go_enter Try.func32, Try.ntmps32
      go_wp2_with fail
      refine (E1.out _ B0.out).mono ?_
      rintro e w1 ⟨rfl, b1⟩
      have D1 := Lib.hid (bT B0.out b1)
      have TA := HT.out.below b1
      obtain ⟨t0, t1⟩ := TA.cells
      have tl := TA.lt
      clear b1 E1 TA
      go_wp2_with fail
      refine (E3.out _ D1.out).mono ?_
      rintro e w2 ⟨b4, rows, rfl, er, r4, bl4⟩
      have D2 := Lib.hid (bT D1.out bl4)
      have T4 := Lib.hid (E4.out b4 rows _ er r4)
      clear bl4 er r4 E3 t0 t1 tl
      go_wp2_with fail
      refine T4.out.mono ?_
      rintro e w5 ⟨s5, c5, rfl, z5, b5⟩
      have D5 := Lib.hid (bT D2.out b5)
      have Z5 := Lib.hid (pls_of z5)
      clear b5 T4 z5
      go_wp2_with fail
      refine (E2'.out _ D5.out).mono ?_
      rintro e w6 ⟨rfl, b6⟩
      have D6 := Lib.hid (bT D5.out b6)
      have Z6 := Lib.hid (Z5.out.below b6)
      clear b6 E2' Z5 D5 D2 D1 E4
      go_wp2
      go_loopw [10, 34] (fun v i wr => ∃ (k : Nat) (cu : List LPl), i = .int .i64 k ∧ k ≤ m ∧ cu.length ≤ k ∧ Hid (cu = poP qs (ts.take k)) ∧ Hid (wr.ownsRow w6.heap.size 34 2 v cu.length (enCells cu)) ∧ Hid (Below w6.heap.size w6 wr)) (fun _ i _ => m - (intOf i).toNat)
      case atStart => exact ⟨0, [], rfl, Nat.zero_le _, Nat.zero_le _, rfl, ⟨rfl, .inl ⟨rfl, rfl⟩⟩, Below.refl _ _⟩
      case round =>
        obtain ⟨k, cu, rfl, hk, hcl, HC, OR, HB⟩ := hrel
        have hk0 : (0 : Int) ≤ (k : Int) := by omega
        have DW := Lib.hid (bT D6.out HB.out)
        by_cases g1 : k < m
        · have g1' : (k : Int) < (m : Int) := by omega
          have hlt : k < ts.length := by rw [HM.out]; exact g1
          obtain ⟨g, o, rfl, TI⟩ : ∃ g o, sl4 = some ⟨g, o, none⟩ ∧ IntsAt w g o ts := by
            rcases HTS.out with e | h
            · rw [e] at hlt; simp at hlt
            · exact h
          have hc := (DW.out.cell (p := ⟨g, o + k, none⟩) TI.1).trans (TI.2 k hlt)
          have hzb := (IT.out k hlt).1
          have PS := Lib.hid (poP_step qs ts k hlt)
          clear hlt TI
          generalize ts.getD k 0 = z at *
          obtain ⟨z1, z2⟩ := hzb
          obtain ⟨j, rfl⟩ : ∃ j : Nat, z = (j : Int) + 1 := ⟨(z - 1).toNat, by omega⟩
          have hjq : j < q := by omega
          have hjn : ((j : Int) + 1 - 1).toNat = j := by omega
          have hlt2 : j < qs.length := by rw [HQ.out]; exact hjq
          obtain ⟨c, o2, rfl, PA⟩ : ∃ c o, s5 = some ⟨c, o, none⟩ ∧ PlAt w6 c o qs := by
            rcases Z6.out with e | h
            · rw [e] at hlt2; simp at hlt2
            · exact h
          have PB := PA.below HB.out
          obtain ⟨d0, d1⟩ := PB.cell j hlt2
          have cl := PB.lt
          obtain ⟨a, b, hpj⟩ : ∃ a b, qs[j] = (a, b) := ⟨_, _, rfl⟩
          rw [hpj] at d0 d1
          dsimp only at d0 d1
          have CS := Lib.hid (show cu ++ [(a, b)] = poP qs (ts.take (k + 1)) by
            rw [PS.out, ← HC.out, hjn, ← hpj]
            simp [hlt2])
          have EV := Lib.hid (show enCells cu ++ [.int .i64 a, .int .i64 b] = enCells (cu ++ [(a, b)]) from (enCells_add cu (a, b)).symm)
          have hjz : (0 : Int) ≤ (j : Int) := by omega
          have hjz2 : (j : Int) < (q : Int) := by omega
          have hsw := HB.out.size
          clear hlt2 PA PB hpj PS HC hjn z1 z2
          go_wp2_with (first | (at_builtin; refine wpList_append_lies _ rfl (.tmp 38) (.tmp 44) 27 rfl w6.heap.size 34 i3 (.agg #[.int .i64 0, .int .i64 0]) 2 16 Try.underlying27 hi3 hd0 hd1 hd2 rfl (by decide) _ _ _ rfl (OR.out.alloc _) ⟨wr.heap.size, 0, none⟩ 1 1 [.int .i64 a, .int .i64 b] rfl rfl (cell_two_new _ _ _ _) (by intro u hu; simp at hu; rcases hu with rfl | rfl <;> rfl) (by decide) (by unfold maxLen; omega) (by omega) (by simp; omega) (wr.heap.size + 1) (by simp) ?_))
          intro g9 cap9 w9 own9 grow9 hg9 hlt9
          have B9 := Lib.hid ((bA HB.out (.cells #[.int .i64 a, .int .i64 b] 34)).grown grow9 (by simp; omega) (fun j hj => (OR.out.lt j hj).1))
          rw [EV.out] at own9
          have N9 : Hid (w9.ownsRow w6.heap.size 34 2 (.slice (some ⟨g9, 0, none⟩) (cu.length + 1) cap9) (cu ++ [(a, b)]).length (enCells (cu ++ [(a, b)]))) := by
            rw [List.length_append]; exact own9
          have LL := Lib.hid (show (cu ++ [(a, b)]).length ≤ k + 1 by rw [List.length_append]; simp; omega)
          clear own9 grow9 hg9 hlt9 OR HB EV
          go_wp2
          go_roundw
          case rel => exact ⟨k + 1, cu ++ [(a, b)], by go_num, by omega, LL.out, CS, N9, B9⟩
          case measure => simp [intOf]; omega
        · have g1' : ¬ (k : Int) < (m : Int) := by omega
          have CE := Lib.hid (show cu = poP qs ts by rw [HC.out, List.take_of_length_le (by rw [HM.out]; omega)])
          have OF := Lib.hid (own_mono OR.out D6.out.size)
          obtain ⟨sv, cv, rfl, pv⟩ := own_pls OR.out
          have E6 := Lib.hid (ipi_any sv cv cu wr (by unfold maxLen; omega) (pls_of pv))
          rw [pidsA_eq (show cu.length ≤ 400 by omega)] at E6
          have L6 := Lib.hid (show (pidsL cu).length ≤ 400 by rw [pidsL_len]; omega)
          have YZ := Lib.hid (show pidsL cu = ids → ans = cu from fun e => by rw [CE.out]; rw [CE.out] at e; exact YY.out e)
          have NZ := Lib.hid (show ¬ pidsL cu = ids → ans = [] from fun e => by rw [CE.out] at e; exact NN.out e)
          clear HC OR CE YY NN pv
          go_wp2_with fail
          refine E6.out.mono ?_
          rintro e w7 ⟨v7, rfl, o7, b7⟩
          obtain ⟨s7, c7, rfl, i7⟩ := own_ints o7
          have D7 := Lib.hid (bT DW.out b7)
          have OF7 := Lib.hid (own_below OF.out b7)
          have T8 := Lib.hid (E5.out _ s7 c7 w7 D7.out L6.out i7)
          clear o7 b7 i7 E6 OF
          cases hbb : B (pidsL cu = ids) with
          | true =>
            rw [hbb] at T8
            have AN := Lib.hid (YZ.out (B_true hbb))
            clear hbb YZ NZ
            generalize (pidsL cu).length = idn at *
            go_wp2_with fail
            refine T8.out.mono ?_
            rintro e w8 ⟨rfl, b8⟩
            have D8 := Lib.hid (bT D7.out b8)
            have OF8 := Lib.hid (own_below OF7.out b8)
            rw [← AN.out] at OF8
            clear b8 T8
            go_wp2
            go_ret
            exact ⟨_, rfl, by rw [AN.out] at OF8 ⊢; exact OF8.out, D8.out⟩
          | false =>
            rw [hbb] at T8
            have AN := Lib.hid (NZ.out (B_false hbb))
            clear hbb YZ NZ
            generalize (pidsL cu).length = idn at *
            go_wp2_with fail
            refine T8.out.mono ?_
            rintro e w8 ⟨rfl, b8⟩
            have D8 := Lib.hid (bT D7.out b8)
            clear b8 T8
            go_wp2
            go_ret
            exact ⟨_, rfl, by rw [AN.out]; exact ⟨rfl, .inl ⟨rfl, rfl⟩⟩, D8.out⟩

end Go.Proofs.Ytdmfljejlhlbnaa
