/-
  THE TRUES OF A PLAN: spec.TruesOf.
-/
import Derived.Test.YtdmfljejlhlbnaaUe
namespace Go.Proofs.Ytdmfljejlhlbnaa
open Go.RowKit
set_option linter.unusedVariables false

def NoTwo (pl : List LPl) : Prop := ∀ (i j : Nat) (hi : i < pl.length) (hj : j < pl.length), i < j → pl[i] ≠ pl[j]
theorem rise_nodup {rs : List LSt} {ps : List LPr} {pl : List LPl} (h : IdsR rs ps (pidsL pl)) (i j : Nat) (hi : i < pl.length) (hj : j < pl.length) (hij : i < j) : pl[i] ≠ pl[j] := fun e => by
  have IR := inRise_of h.2.1.2.2.1 h.2.2.1 h.2.2.2
  have := rise_lt _ _ _ IR i j hij (by rw [pidsL_len]; exact hj)
  simp [pidsL, hi, hj, e] at this
theorem own_e2 (w : World) : (w.alloc (.cells #[] 2)).ownsRow w.heap.size 2 1 (.slice (some ⟨w.heap.size, 0, none⟩) 0 0) 0 (valsZ []) := own_none5 w

set_option maxRecDepth 100000 in
set_option maxHeartbeats 4000000 in
/-- spec.TruesOf. -/
theorem sto_any (sl : Option Addr) (cap : Nat) (sl2 : Option Addr) (cap2 : Nat) (sl3 : Option Addr) (cap3 : Nat) (rs : List LSt) (ps : List LPr) (pl : List LPl) (top : Int) (w : World) (hn : rs.length ≤ 1048576) (hl : pl.length ≤ 1048576) (hz : Sts w sl rs) (hp : Prs w sl2 ps) (hi : Pls w sl3 pl) :
    Calls Try.prog 60 #[TV sl rs.length cap sl2 ps.length cap2, .int .i64 top, .slice sl3 pl.length cap3] w fun e w' => ∃ v, e = .returned v ∧ w'.ownsRow w.heap.size 2 1 v (trA rs ps top pl).length (valsZ (trA rs ps top pl)) ∧ Below w.heap.size w w' := by
  obtain ⟨i0, hi0, hz0, hz1, hz2⟩ := info_parts info2'
  have HT := Lib.hid (TabAt.new w sl rs.length cap sl2 ps.length cap2)
  have B0 := Lib.hid (bA (bA0 w (.cells #[.slice sl rs.length cap, .slice sl2 ps.length cap2] 26)) (.cells #[] 2))
  have X0 := Lib.hid (HT.out.below (bA0 (w.alloc (.cells #[.slice sl rs.length cap, .slice sl2 ps.length cap2] 26)) (.cells #[] 2)))
  have O0 := Lib.hid (own_e2 (w.alloc (.cells #[.slice sl rs.length cap, .slice sl2 ps.length cap2] 26)))
  rw [show (w.alloc (.cells #[.slice sl rs.length cap, .slice sl2 ps.length cap2] 26)).heap.size = w.heap.size + 1 by simp] at O0
  have E1 : Hid (∀ W, Below w.heap.size w W → Calls Try.prog 22 #[TV sl rs.length cap sl2 ps.length cap2, .int .i64 top, .slice sl3 pl.length cap3] W fun e w' => e = .returned (.bool (planB rs ps top pl)) ∧ Below W.heap.size W w') := fun W hW => spr_any sl cap sl2 cap2 sl3 cap3 rs ps pl top W hn hl (hz.below hW) (hp.below hW) (hi.below hW)
  by_cases h4 : 400 < pl.length
  · have h4' : (400 : Int) < (pl.length : Int) := by omega
    have TA : trA rs ps top pl = [] := by
      unfold trA planB
      rw [show decide (pl.length ≤ 400) = false by rw [decide_eq_false_iff_not]; omega]
      rfl
    rw [TA]
    have P := Lib.hid (own_mono O0.out (Nat.le_succ w.heap.size))
    clear hz hp hi TA E1 O0 X0 HT
    generalize rs.length = rn at *
    generalize ps.length = pn at *
    generalize pl.length = m at *
    go_enter Try.func60, Try.ntmps60
    go_wp2
    go_ret
    exact ⟨_, rfl, P.out, B0.out⟩
  have h4' : ¬ (400 : Int) < (pl.length : Int) := by omega
  cases hb : planB rs ps top pl with
  | false =>
    have TA : trA rs ps top pl = [] := by unfold trA; rw [hb]; rfl
    rw [TA]
    rw [hb] at E1
    have P := Lib.hid (own_mono O0.out (Nat.le_succ w.heap.size))
    clear hb hz hp hi TA O0 X0 HT
    generalize rs.length = rn at *
    generalize ps.length = pn at *
    generalize pl.length = m at *
    go_enter Try.func60, Try.ntmps60
    go_wp2_with fail
    refine (E1.out _ B0.out).mono ?_
    rintro e w1 ⟨rfl, b1⟩
    have D1 := Lib.hid (bT B0.out b1)
    have P1 := Lib.hid (own_below P.out b1)
    clear b1 E1 P
    go_wp2
    go_ret
    exact ⟨_, rfl, P1.out, D1.out⟩
  | true =>
    rw [hb] at E1
    obtain ⟨h400, IR⟩ := planB_ids hb
    have TA : trA rs ps top pl = trK pl (plF rs top (pidsL pl)) (plF rs top (pidsL pl)).length := by unfold trA; rw [hb]; rfl
    rw [TA]
    have hpl : (plF rs top (pidsL pl)).length ≤ 38400 := by
      have := plF_le top (pidsL pl) IR.2.1
      rw [pidsL_len] at this
      omega
    have ND := Lib.hid (show NoTwo pl from rise_nodup IR)
    have E2 : Hid (∀ W, Below w.heap.size w W → Calls Try.prog 24 #[.slice sl3 pl.length cap3] W fun e w' => ∃ s c, e = .returned (.slice s (pidsL pl).length c) ∧ Ints w' s (pidsL pl) ∧ Below W.heap.size W w') := fun W hW => by
      have := spi_any sl3 cap3 pl W (by unfold maxLen; omega) (hi.below hW)
      rw [pidsA_eq h400] at this
      refine this.mono ?_
      rintro e w' ⟨v, rfl, o, b⟩
      obtain ⟨s, c, rfl, i⟩ := own_ints o
      exact ⟨s, c, rfl, i, b⟩
    have E3 : Hid (∀ s c W, Below w.heap.size w W → Ints W s (pidsL pl) → Calls Try.prog 90 #[TV sl rs.length cap sl2 ps.length cap2, .int .i64 top, .slice s (pidsL pl).length c] W fun e w' => ∃ v, e = .returned v ∧ w'.ownsRow W.heap.size 34 2 v (plF rs top (pidsL pl)).length (enCells (plF rs top (pidsL pl))) ∧ Below W.heap.size W w') := fun s c W hW i => vars_any sl cap sl2 cap2 s c rs ps top (pidsL pl) W hn (by rw [pidsL_len]; exact h400) (hz.below hW) (hp.below hW) IR.2.1 i
    have HI := Lib.hid hi
    clear hb hz hp hi TA IR
    generalize hPQ : plF rs top (pidsL pl) = qs at *
    clear hPQ
    generalize (pidsL pl).length = idn at *
    generalize rs.length = rn at *
    generalize ps.length = pn at *
    generalize hM : pl.length = m at *
    have HM := Lib.hid hM
    clear hM
    go_enter Try.func60, Try.ntmps60
    go_wp2_with fail
    refine (E1.out _ B0.out).mono ?_
    rintro e w1 ⟨rfl, b1⟩
    have D1 := Lib.hid (bT B0.out b1)
    have X1 := Lib.hid (X0.out.below b1)
    have O1 := Lib.hid (own_below O0.out b1)
    have hw1 := X1.out.lt
    clear b1 E1 HT X0 O0
    have KB : Hid (∀ W, Below w1.heap.size w1 W → w.heap.size < W.heap.size ∧ W.cell? ⟨w.heap.size, 0, none⟩ = some (.slice sl rn cap) ∧ W.cell? ⟨w.heap.size, 1, none⟩ = some (.slice sl2 pn cap2)) := fun W hW => by
      obtain ⟨k0, k1⟩ := (X1.out.below hW).cells
      exact ⟨(X1.out.below hW).lt, k0, k1⟩
    go_wp2_with fail
    refine wp_region_held_drew (S := fun W => w.heap.size < W.heap.size ∧ W.cell? ⟨w.heap.size, 0, none⟩ = some (.slice sl rn cap) ∧ W.cell? ⟨w.heap.size, 1, none⟩ = some (.slice sl2 pn cap2)) (by kernel_rfl) ?_ (fun hHeld => ?_)
    · exact KB.out _ (Below.refl _ _).drew
    refine wpAnyH_take (i := 0) (oi := _) (v := ?_) rfl (by kernel_rfl) (by kernel_rfl) (by kernel_rfl) (fun _ _ _ h => h) (Or.inl ⟨by rfl, ?_⟩) (by assumption) ?_
    rotate_left
    · first | (intro w hSw; (try dsimp only at hSw); go_simp; done) | (intro w hSw; (try dsimp only at hSw); go_simp; with_reducible rfl)
    try simp only [Act.put, List.setIfInBounds_toArray, List.set_cons_zero, List.set_cons_succ, List.getElem_toArray, List.getElem_cons_zero]
    refine wpAnyH_take (i := 1) (oi := _) (v := ?_) rfl (by kernel_rfl) (by kernel_rfl) (by kernel_rfl) (fun _ _ _ h => h) (Or.inl ⟨by rfl, ?_⟩) (by assumption) ?_
    rotate_left
    · first | (intro w hSw; (try dsimp only at hSw); go_simp; done) | (intro w hSw; (try dsimp only at hSw); go_simp; with_reducible rfl)
    try simp only [Act.put, List.setIfInBounds_toArray, List.set_cons_zero, List.set_cons_succ, List.getElem_toArray, List.getElem_cons_succ, List.getElem_cons_zero]
    refine wpAnyH_take (i := 2) (oi := _) (v := ?_) rfl (by kernel_rfl) (by kernel_rfl) (by kernel_rfl) (fun _ _ _ h => h) (Or.inl ⟨by rfl, ?_⟩) (by assumption) ?_
    rotate_left
    · first | (intro w hSw; (try dsimp only at hSw); go_simp; done) | (intro w hSw; (try dsimp only at hSw); go_simp; with_reducible rfl)
    try simp only [Act.put, List.setIfInBounds_toArray, List.set_cons_zero, List.set_cons_succ, List.getElem_toArray, List.getElem_cons_succ, List.getElem_cons_zero]
    refine wpAnyH_ready (rs := [3]) (by kernel_rfl) (by simp) ?_
    refine AllReadyH.cons rfl (fun K hK => ?_) AllReadyH.nil
    go_simp
    go_wp2_with (go_at_call 24; refine (E2.out _ D1.out.drew).mono ?_; rintro e w3 ⟨s3, c3, rfl, z3, b3⟩)
    have F3 : Hid (Below w1.heap.size w1 w3) := bT ((Below.refl w1.heap.size w1).drew) b3
    have D3 := Lib.hid (bT D1.out F3.out)
    have Z3 := Lib.hid z3
    clear b3 z3
    refine hK.out _ _ ?_ (fun hHeld => ?_)
    · exact KB.out _ F3.out
    clear hK K
    refine wpAnyH_ready (rs := [4]) (by kernel_rfl) (by simp) ?_
    refine AllReadyH.cons rfl (fun K hK => ?_) AllReadyH.nil
    go_simp
    go_wp2_with (go_at_call 90; refine (E3.out s3 c3 _ D3.out Z3.out).mono ?_; rintro e w5 ⟨v5, rfl, o5, b5⟩)
    have F5 : Hid (Below w1.heap.size w1 w5) := bT F3.out b5
    have D5 := Lib.hid (bT D3.out b5)
    have O5 := Lib.hid o5
    clear b5 o5
    refine hK.out _ _ ?_ (fun hHeld => ?_)
    · exact KB.out _ F5.out
    clear hK K
    refine wpAnyH_take (i := 5) (oi := _) (v := ?_) rfl (by kernel_rfl) (by kernel_rfl) (by kernel_rfl) (fun _ _ _ h => h) (Or.inl ⟨by rfl, ?_⟩) (by assumption) ?_
    rotate_left
    · first | (intro w hSw; (try dsimp only at hSw); go_simp; done) | (intro w hSw; (try dsimp only at hSw); go_simp; with_reducible rfl)
    try simp only [Act.put, List.setIfInBounds_toArray, List.set_cons_zero, List.set_cons_succ, List.getElem_toArray, List.getElem_cons_succ, List.getElem_cons_zero]
    refine wpAnyH_done (by kernel_rfl) ?_ _
    have OO := Lib.hid (own_below O1.out F5.out)
    obtain ⟨wb, hwb⟩ : ∃ wb, wb = w3.heap.size := ⟨_, rfl⟩
    rw [← hwb] at O5
    have hw5 := F5.out.size
    clear KB E2 E3 D3 F3 Z3 X1 F5 O1 hwb
    obtain ⟨s5, c5, rfl⟩ := own_v O5.out
    generalize hQN : qs.length = q at *
    have HQ := Lib.hid hQN
    clear hQN
    go_wp2_with fail
    go_loopw [7, 9] (fun v j wr => ∃ (k : Nat) (cu : List Int), j = .int .i64 k ∧ k ≤ q ∧ cu.length ≤ k ∧ Hid (cu = trK pl qs k) ∧ Hid (wr.ownsRow (w.heap.size + 1) 2 1 v cu.length (valsZ cu)) ∧ Hid (wr.ownsRow wb 34 2 (.slice s5 q c5) q (enCells qs)) ∧ Hid (Below (w.heap.size + 1) w5 wr)) (fun _ j _ => q - (intOf j).toNat)
    case atStart => exact ⟨0, [], rfl, Nat.zero_le _, Nat.zero_le _, rfl, OO, O5, Below.refl _ _⟩
    case round =>
      obtain ⟨k, cu, rfl, hk, hcl, HC, OR, OZ, HB⟩ := hrel
      have hk0 : (0 : Int) ≤ (k : Int) := by omega
      by_cases g1 : k < q
      · have g1' : (k : Int) < (q : Int) := by omega
        have hlt : k < qs.length := by rw [HQ.out]; exact g1
        obtain ⟨a, b, hp⟩ : ∃ a b, qs[k] = (a, b) := ⟨_, _, rfl⟩
        have GD := Lib.hid (show qs.getD k (0, 0) = (a, b) by rw [← hp]; simp [hlt])
        have EC := enCells_at qs k hlt
        rw [hp] at EC
        dsimp only at EC
        have QC := Lib.hid (show ∀ W : World, W.ownsRow wb 34 2 (.slice s5 q c5) q (enCells qs) → ∃ c, s5 = some ⟨c, 0, none⟩ ∧ c < W.heap.size ∧ W.cell? ⟨c, k * 2, none⟩ = some (.int .i64 a) ∧ W.cell? ⟨c, k * 2 + 1, none⟩ = some (.int .i64 b) from fun W hZ => by
          have hZ2 := hZ
          rcases hZ.2 with ⟨_, h0⟩ | ⟨g, cp, cur, hv, _, hg, _⟩
          · omega
          · obtain rfl : s5 = some ⟨g, 0, none⟩ := (Value.slice.inj hv).1
            exact ⟨g, rfl, (Array.getElem?_eq_some_iff.1 hg).1, by rw [hZ2.cellAt (k * 2) (by omega), EC.1], by rw [hZ2.cellAt (k * 2 + 1) (by omega), EC.2]⟩)
        have TS := Lib.hid (show ∀ r, r = B ((a, b) ∈ pl) → trK pl qs (k + 1) = trK pl qs k ++ (if r = true then [(k : Int) + 1] else []) from fun r hr => by
          cases r with
          | true => rw [if_pos rfl]; exact trK_yes pl qs k (by rw [GD.out]; exact hr.symm)
          | false => rw [if_neg Bool.false_ne_true, List.append_nil]; exact trK_no pl qs k (by rw [GD.out]; exact hr.symm))
        clear hp hlt EC GD
        go_wp2
        go_loopw [7, 10] (fun v j wq => ∃ (i : Nat) (cv : List Int), j = .int .i64 i ∧ i ≤ m ∧ cv.length ≤ k + 1 ∧ Hid (cv = cu ++ (if B ((a, b) ∈ pl.take i) = true then [(k : Int) + 1] else [])) ∧ Hid (wq.ownsRow (w.heap.size + 1) 2 1 v cv.length (valsZ cv)) ∧ Hid (wq.ownsRow wb 34 2 (.slice s5 q c5) q (enCells qs)) ∧ Hid (Below (w.heap.size + 1) w5 wq)) (fun _ j _ => m - (intOf j).toNat)
        case atStart => exact ⟨0, cu, rfl, Nat.zero_le _, by omega, (by show cu = cu ++ _; rw [B_no (p := (a, b) ∈ pl.take 0) (by simp)]; simp), OR, OZ, HB⟩
        case round =>
          obtain ⟨i, cv, rfl, hi, hcv, HV, OR, OZ, HB⟩ := hrel
          have hi0' : (0 : Int) ≤ (i : Int) := by omega
          have DW := Lib.hid (D5.out.trans (HB.out.mono (Nat.le_succ _)))
          by_cases g2 : i < m
          · have g2' : (i : Int) < (m : Int) := by omega
            have hlt : i < pl.length := by rw [HM.out]; exact g2
            obtain ⟨g, o, rfl, PA⟩ : ∃ g o, sl3 = some ⟨g, o, none⟩ ∧ PlAt w g o pl := by
              rcases HI.out with e | h
              · rw [e] at hlt; simp at hlt
              · exact h
            have PB := PA.below DW.out
            obtain ⟨c0, c1⟩ := PB.cell i hlt
            have gl := PB.lt
            obtain ⟨x, y, hp⟩ : ∃ x y, pl[i] = (x, y) := ⟨_, _, rfl⟩
            rw [hp] at c0 c1
            dsimp only at c0 c1
            obtain ⟨c, rfl, cl, d0, d1⟩ := QC.out _ OZ.out
            have hgt : Try.prog.eqGuardType Try.prog.depth 34 = false := by kernel_rfl
            have hnq := eq34 x y a b
            have KB : Hid (g < wr.drew.heap.size ∧ c < wr.drew.heap.size ∧ wr.drew.cell? ⟨g, o + i * 2, none⟩ = some (.int .i64 x) ∧ wr.drew.cell? ⟨g, o + i * 2 + 1, none⟩ = some (.int .i64 y) ∧ wr.drew.cell? ⟨c, k * 2, none⟩ = some (.int .i64 a) ∧ wr.drew.cell? ⟨c, k * 2 + 1, none⟩ = some (.int .i64 b)) := ⟨gl, cl, c0, c1, d0, d1⟩
            have tk : pl.take (i + 1) = pl.take i ++ [(x, y)] := by rw [List.take_succ_eq_append_getElem hlt, hp]
            by_cases hac : x = a ∧ y = b
            · have hnb : (x == a && y == b) = true := by simp [hac]
              have hab : pl[i] = (a, b) := by rw [hp, hac.1, hac.2]
              rw [hnb] at hnq
              have NB : B ((a, b) ∈ pl.take i) = false := B_no (fun g => by
                obtain ⟨j, hj, e⟩ := List.getElem_of_mem g
                have hj' : j < i := by rw [List.length_take] at hj; omega
                rw [List.getElem_take] at e
                exact ND.out j i (by omega) hlt hj' (by rw [e, hab]))
              have CS := Lib.hid (show cv ++ [(k : Int) + 1] = cu ++ (if B ((a, b) ∈ pl.take (i + 1)) = true then [(k : Int) + 1] else []) by
                rw [HV.out, NB, B_yes (show (a, b) ∈ pl.take (i + 1) by rw [tk, hac.1, hac.2]; simp)]; simp)
              have LV := Lib.hid (show cv.length ≤ k by rw [HV.out, NB]; simpa using hcl)
              have EV := Lib.hid (show valsZ cv ++ [.int .i64 ((k : Int) + 1)] = valsZ (cv ++ [(k : Int) + 1]) by simp [valsZ])
              have hlv := LV.out
              have hsw : w.heap.size + 1 ≤ wr.heap.size := by have := HB.out.size; omega
              have O2 : Hid (wr.drew.ownsRow (w.heap.size + 1) 2 1 _ cv.length (valsZ cv)) := OR.out
              have Z2 : Hid (wr.drew.ownsRow wb 34 2 (.slice (some ⟨c, 0, none⟩) q c5) q (enCells qs)) := OZ.out
              have H2 := Lib.hid HB.out.drew
              clear hp hab hlt PA PB hnb NB tk HV OR OZ HB DW c0 c1 d0 d1 hac
              go_wp2_with fail
              refine wp_region_held_drew (S := fun W => g < W.heap.size ∧ c < W.heap.size ∧ W.cell? ⟨g, o + i * 2, none⟩ = some (.int .i64 x) ∧ W.cell? ⟨g, o + i * 2 + 1, none⟩ = some (.int .i64 y) ∧ W.cell? ⟨c, k * 2, none⟩ = some (.int .i64 a) ∧ W.cell? ⟨c, k * 2 + 1, none⟩ = some (.int .i64 b)) (by kernel_rfl) ?_ (fun hHeld => ?_)
              · exact KB.out
              refine wpAnyH_take (i := 0) (oi := _) (v := ?_) rfl (by kernel_rfl) (by kernel_rfl) (by kernel_rfl) (fun _ _ _ h => h) (Or.inl ⟨by rfl, ?_⟩) (by assumption) ?_
              rotate_left
              · first | (intro w hSw; (try dsimp only at hSw); go_simp; done) | (intro w hSw; (try dsimp only at hSw); go_simp; with_reducible rfl)
              try simp only [Act.put, List.setIfInBounds_toArray, List.set_cons_zero, List.set_cons_succ, List.getElem_toArray, List.getElem_cons_zero]
              refine wpAnyH_take (i := 1) (oi := _) (v := ?_) rfl (by kernel_rfl) (by kernel_rfl) (by kernel_rfl) (fun _ _ _ h => h) (Or.inl ⟨by rfl, ?_⟩) (by assumption) ?_
              rotate_left
              · first | (intro w hSw; (try dsimp only at hSw); go_simp; done) | (intro w hSw; (try dsimp only at hSw); go_simp; with_reducible rfl)
              try simp only [Act.put, List.setIfInBounds_toArray, List.set_cons_zero, List.set_cons_succ, List.getElem_toArray, List.getElem_cons_succ, List.getElem_cons_zero]
              refine wpAnyH_take (i := 2) (oi := _) (v := ?_) rfl (by kernel_rfl) (by kernel_rfl) (by kernel_rfl) (fun _ _ _ h => h) (Or.inl ⟨by rfl, ?_⟩) (by assumption) ?_
              rotate_left
              · first | (intro w hSw; (try dsimp only at hSw); go_simp; done) | (intro w hSw; (try dsimp only at hSw); go_simp; with_reducible rfl)
              try simp only [Act.put, List.setIfInBounds_toArray, List.set_cons_zero, List.set_cons_succ, List.getElem_toArray, List.getElem_cons_succ, List.getElem_cons_zero]
              refine wpAnyH_take (i := 3) (oi := _) (v := ?_) rfl (by kernel_rfl) (by kernel_rfl) (by kernel_rfl) (fun _ _ _ h => h) (Or.inl ⟨by rfl, ?_⟩) (by assumption) ?_
              rotate_left
              · first | (intro w hSw; (try dsimp only at hSw); go_simp; done) | (intro w hSw; (try dsimp only at hSw); go_simp; with_reducible rfl)
              try simp only [Act.put, List.setIfInBounds_toArray, List.set_cons_zero, List.set_cons_succ, List.getElem_toArray, List.getElem_cons_succ, List.getElem_cons_zero]
              refine wpAnyH_take (i := 4) (oi := _) (v := ?_) rfl (by kernel_rfl) (by kernel_rfl) (by kernel_rfl) (fun _ _ _ h => h) (Or.inl ⟨by rfl, ?_⟩) (by assumption) ?_
              rotate_left
              · first | (intro w hSw; (try dsimp only at hSw); go_simp; done) | (intro w hSw; (try dsimp only at hSw); go_simp; with_reducible rfl)
              try simp only [Act.put, List.setIfInBounds_toArray, List.set_cons_zero, List.set_cons_succ, List.getElem_toArray, List.getElem_cons_succ, List.getElem_cons_zero]
              refine wpAnyH_take (i := 5) (oi := _) (v := ?_) rfl (by kernel_rfl) (by kernel_rfl) (by kernel_rfl) (fun _ _ _ h => h) (Or.inl ⟨by rfl, ?_⟩) (by assumption) ?_
              rotate_left
              · first | (intro w hSw; (try dsimp only at hSw); go_simp; done) | (intro w hSw; (try dsimp only at hSw); go_simp; with_reducible rfl)
              try simp only [Act.put, List.setIfInBounds_toArray, List.set_cons_zero, List.set_cons_succ, List.getElem_toArray, List.getElem_cons_succ, List.getElem_cons_zero]
              refine wpAnyH_take (i := 6) (oi := _) (v := ?_) rfl (by kernel_rfl) (by kernel_rfl) (by kernel_rfl) (fun _ _ _ h => h) (Or.inl ⟨by rfl, ?_⟩) (by assumption) ?_
              rotate_left
              · first | (intro w hSw; (try dsimp only at hSw); go_simp; done) | (intro w hSw; (try dsimp only at hSw); go_simp; with_reducible rfl)
              try simp only [Act.put, List.setIfInBounds_toArray, List.set_cons_zero, List.set_cons_succ, List.getElem_toArray, List.getElem_cons_succ, List.getElem_cons_zero]
              refine wpAnyH_take (i := 7) (oi := _) (v := ?_) rfl (by kernel_rfl) (by kernel_rfl) (by kernel_rfl) (fun _ _ _ h => h) (Or.inl ⟨by rfl, ?_⟩) (by assumption) ?_
              rotate_left
              · first | (intro w hSw; (try dsimp only at hSw); go_simp; done) | (intro w hSw; (try dsimp only at hSw); go_simp; with_reducible rfl)
              try simp only [Act.put, List.setIfInBounds_toArray, List.set_cons_zero, List.set_cons_succ, List.getElem_toArray, List.getElem_cons_succ, List.getElem_cons_zero]
              refine wpAnyH_take (i := 8) (oi := _) (v := ?_) rfl (by kernel_rfl) (by kernel_rfl) (by kernel_rfl) (fun _ _ _ h => h) (Or.inl ⟨by rfl, ?_⟩) (by assumption) ?_
              rotate_left
              · first | (intro w hSw; (try dsimp only at hSw); go_simp; done) | (intro w hSw; (try dsimp only at hSw); go_simp; with_reducible rfl)
              try simp only [Act.put, List.setIfInBounds_toArray, List.set_cons_zero, List.set_cons_succ, List.getElem_toArray, List.getElem_cons_succ, List.getElem_cons_zero]
              refine wpAnyH_done (by kernel_rfl) ?_ _
              go_wp2_with (first | (at_builtin; refine wpList_append_lies _ rfl (.tmp 49) (.tmp 52) 40 rfl (w.heap.size + 1) 2 i0 (.int .i64 0) 1 8 Try.underlying40 hi0 hz0 hz1 hz2 rfl (by decide) _ _ _ rfl (O2.out.alloc _) ⟨wr.heap.size, 0, none⟩ 1 1 [.int .i64 ((k : Int) + 1)] rfl rfl (cell_one_new wr.drew _ _) (by intro u hu; simp at hu; subst hu; rfl) (by decide) (by unfold maxLen; omega) (by omega) (by simp; omega) (wr.heap.size + 1) (by simp) ?_))
              intro g9 cap9 w9 own9 grow9 hg9 hlt9
              have B9 := Lib.hid ((bA1 H2.out (.cells #[.int .i64 ((k : Int) + 1)] 2) (by simpa using hsw)).grown grow9 (by simp; omega) (fun j hj => (O2.out.lt j hj).1))
              have Z9 := Lib.hid ((Z2.out.alloc (.cells #[.int .i64 ((k : Int) + 1)] 2)).kept grow9 (own_diff (Z2.out.alloc (.cells #[.int .i64 ((k : Int) + 1)] 2)) (O2.out.alloc (.cells #[.int .i64 ((k : Int) + 1)] 2)) (by decide)))
              rw [EV.out] at own9
              have N9 : Hid (w9.ownsRow (w.heap.size + 1) 2 1 (.slice (some ⟨g9, 0, none⟩) (cv.length + 1) cap9) (cv ++ [(k : Int) + 1]).length (valsZ (cv ++ [(k : Int) + 1]))) := by
                rw [List.length_append]; exact own9
              have LL := Lib.hid (show (cv ++ [(k : Int) + 1]).length ≤ k + 1 by rw [List.length_append]; simp; omega)
              clear own9 grow9 hg9 hlt9 O2 Z2 H2 EV
              go_wp2
              go_roundw
              case rel => exact ⟨i + 1, cv ++ [(k : Int) + 1], by go_num, by omega, LL.out, CS, N9, Z9, B9⟩
              case measure => simp [intOf]; omega
            · have hnb : (x == a && y == b) = false := by
                simp
                intro h h2
                exact hac ⟨h, h2⟩
              rw [hnb] at hnq
              have CS := Lib.hid (show cv = cu ++ (if B ((a, b) ∈ pl.take (i + 1)) = true then [(k : Int) + 1] else []) by
                rw [HV.out, B_iff (show (a, b) ∈ pl.take (i + 1) ↔ (a, b) ∈ pl.take i by
                  rw [tk, List.mem_append, List.mem_singleton]
                  constructor
                  · rintro (h | h)
                    · exact h
                    · exact absurd ⟨(Prod.mk.inj h).1.symm, (Prod.mk.inj h).2.symm⟩ hac
                  · exact .inl)])
              have O2 : Hid (wr.drew.ownsRow (w.heap.size + 1) 2 1 _ cv.length (valsZ cv)) := OR.out
              have Z2 : Hid (wr.drew.ownsRow wb 34 2 (.slice (some ⟨c, 0, none⟩) q c5) q (enCells qs)) := OZ.out
              have H2 := Lib.hid HB.out.drew
              clear hp hlt PA PB hnb tk HV OR OZ HB DW c0 c1 d0 d1 hac
              go_wp2_with fail
              refine wp_region_held_drew (S := fun W => g < W.heap.size ∧ c < W.heap.size ∧ W.cell? ⟨g, o + i * 2, none⟩ = some (.int .i64 x) ∧ W.cell? ⟨g, o + i * 2 + 1, none⟩ = some (.int .i64 y) ∧ W.cell? ⟨c, k * 2, none⟩ = some (.int .i64 a) ∧ W.cell? ⟨c, k * 2 + 1, none⟩ = some (.int .i64 b)) (by kernel_rfl) ?_ (fun hHeld => ?_)
              · exact KB.out
              refine wpAnyH_take (i := 0) (oi := _) (v := ?_) rfl (by kernel_rfl) (by kernel_rfl) (by kernel_rfl) (fun _ _ _ h => h) (Or.inl ⟨by rfl, ?_⟩) (by assumption) ?_
              rotate_left
              · first | (intro w hSw; (try dsimp only at hSw); go_simp; done) | (intro w hSw; (try dsimp only at hSw); go_simp; with_reducible rfl)
              try simp only [Act.put, List.setIfInBounds_toArray, List.set_cons_zero, List.set_cons_succ, List.getElem_toArray, List.getElem_cons_zero]
              refine wpAnyH_take (i := 1) (oi := _) (v := ?_) rfl (by kernel_rfl) (by kernel_rfl) (by kernel_rfl) (fun _ _ _ h => h) (Or.inl ⟨by rfl, ?_⟩) (by assumption) ?_
              rotate_left
              · first | (intro w hSw; (try dsimp only at hSw); go_simp; done) | (intro w hSw; (try dsimp only at hSw); go_simp; with_reducible rfl)
              try simp only [Act.put, List.setIfInBounds_toArray, List.set_cons_zero, List.set_cons_succ, List.getElem_toArray, List.getElem_cons_succ, List.getElem_cons_zero]
              refine wpAnyH_take (i := 2) (oi := _) (v := ?_) rfl (by kernel_rfl) (by kernel_rfl) (by kernel_rfl) (fun _ _ _ h => h) (Or.inl ⟨by rfl, ?_⟩) (by assumption) ?_
              rotate_left
              · first | (intro w hSw; (try dsimp only at hSw); go_simp; done) | (intro w hSw; (try dsimp only at hSw); go_simp; with_reducible rfl)
              try simp only [Act.put, List.setIfInBounds_toArray, List.set_cons_zero, List.set_cons_succ, List.getElem_toArray, List.getElem_cons_succ, List.getElem_cons_zero]
              refine wpAnyH_take (i := 3) (oi := _) (v := ?_) rfl (by kernel_rfl) (by kernel_rfl) (by kernel_rfl) (fun _ _ _ h => h) (Or.inl ⟨by rfl, ?_⟩) (by assumption) ?_
              rotate_left
              · first | (intro w hSw; (try dsimp only at hSw); go_simp; done) | (intro w hSw; (try dsimp only at hSw); go_simp; with_reducible rfl)
              try simp only [Act.put, List.setIfInBounds_toArray, List.set_cons_zero, List.set_cons_succ, List.getElem_toArray, List.getElem_cons_succ, List.getElem_cons_zero]
              refine wpAnyH_take (i := 4) (oi := _) (v := ?_) rfl (by kernel_rfl) (by kernel_rfl) (by kernel_rfl) (fun _ _ _ h => h) (Or.inl ⟨by rfl, ?_⟩) (by assumption) ?_
              rotate_left
              · first | (intro w hSw; (try dsimp only at hSw); go_simp; done) | (intro w hSw; (try dsimp only at hSw); go_simp; with_reducible rfl)
              try simp only [Act.put, List.setIfInBounds_toArray, List.set_cons_zero, List.set_cons_succ, List.getElem_toArray, List.getElem_cons_succ, List.getElem_cons_zero]
              refine wpAnyH_take (i := 5) (oi := _) (v := ?_) rfl (by kernel_rfl) (by kernel_rfl) (by kernel_rfl) (fun _ _ _ h => h) (Or.inl ⟨by rfl, ?_⟩) (by assumption) ?_
              rotate_left
              · first | (intro w hSw; (try dsimp only at hSw); go_simp; done) | (intro w hSw; (try dsimp only at hSw); go_simp; with_reducible rfl)
              try simp only [Act.put, List.setIfInBounds_toArray, List.set_cons_zero, List.set_cons_succ, List.getElem_toArray, List.getElem_cons_succ, List.getElem_cons_zero]
              refine wpAnyH_take (i := 6) (oi := _) (v := ?_) rfl (by kernel_rfl) (by kernel_rfl) (by kernel_rfl) (fun _ _ _ h => h) (Or.inl ⟨by rfl, ?_⟩) (by assumption) ?_
              rotate_left
              · first | (intro w hSw; (try dsimp only at hSw); go_simp; done) | (intro w hSw; (try dsimp only at hSw); go_simp; with_reducible rfl)
              try simp only [Act.put, List.setIfInBounds_toArray, List.set_cons_zero, List.set_cons_succ, List.getElem_toArray, List.getElem_cons_succ, List.getElem_cons_zero]
              refine wpAnyH_take (i := 7) (oi := _) (v := ?_) rfl (by kernel_rfl) (by kernel_rfl) (by kernel_rfl) (fun _ _ _ h => h) (Or.inl ⟨by rfl, ?_⟩) (by assumption) ?_
              rotate_left
              · first | (intro w hSw; (try dsimp only at hSw); go_simp; done) | (intro w hSw; (try dsimp only at hSw); go_simp; with_reducible rfl)
              try simp only [Act.put, List.setIfInBounds_toArray, List.set_cons_zero, List.set_cons_succ, List.getElem_toArray, List.getElem_cons_succ, List.getElem_cons_zero]
              refine wpAnyH_take (i := 8) (oi := _) (v := ?_) rfl (by kernel_rfl) (by kernel_rfl) (by kernel_rfl) (fun _ _ _ h => h) (Or.inl ⟨by rfl, ?_⟩) (by assumption) ?_
              rotate_left
              · first | (intro w hSw; (try dsimp only at hSw); go_simp; done) | (intro w hSw; (try dsimp only at hSw); go_simp; with_reducible rfl)
              try simp only [Act.put, List.setIfInBounds_toArray, List.set_cons_zero, List.set_cons_succ, List.getElem_toArray, List.getElem_cons_succ, List.getElem_cons_zero]
              refine wpAnyH_done (by kernel_rfl) ?_ _
              go_wp2_with fail
              go_roundw
              case rel => exact ⟨i + 1, cv, by go_num, by omega, hcv, CS, O2, Z2, H2⟩
              case measure => simp [intOf]; omega
          · have g2' : ¬ (i : Int) < (m : Int) := by omega
            have CE := Lib.hid (show cv = trK pl qs (k + 1) by
              rw [TS.out _ rfl, ← HC.out]
              have := HV.out
              rwa [List.take_of_length_le (show pl.length ≤ i by rw [HM.out]; omega)] at this)
            clear HV TS
            go_wp2
            go_roundw
            case rel => exact ⟨k + 1, cv, by go_num, by omega, hcv, CE, OR, OZ, HB⟩
            case measure => simp [intOf]; omega
      · have g1' : ¬ (k : Int) < (q : Int) := by omega
        have ek : k = q := by omega
        have P := Lib.hid (own_mono OR.out (Nat.le_succ w.heap.size))
        rw [HC.out, ek, ← HQ.out] at P
        have BB := Lib.hid (D5.out.trans (HB.out.mono (Nat.le_succ _)))
        clear OR HC ek OZ
        go_wp2
        go_ret
        exact ⟨_, rfl, P.out, BB.out⟩

end Go.Proofs.Ytdmfljejlhlbnaa
