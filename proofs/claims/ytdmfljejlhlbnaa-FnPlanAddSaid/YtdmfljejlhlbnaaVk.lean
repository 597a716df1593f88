/-
  THE TRUES OF A PLAN: spec.TruesOf.
  MARKS ON PLACES; two lists of numbers held against each other: slices.Equal.
  THE PLAN OF TRUES: impl.PlanOf.
  THE PLAN OF TRUES: spec.PlanOf.
  THE LAW 12: the walk.
  THE LAW 13: the walk.
-/
import Derived.Test.YtdmfljejlhlbnaaUe
import Derived.Test.YtdmfljejlhlbnaaAt
import Derived.BigQuiet
import Derived.Test.YtdmfljejlhlbnaaAq
import Derived.Test.YtdmfljejlhlbnaaPb
namespace Go.Proofs.Ytdmfljejlhlbnaa
open Go.RowKit
set_option linter.unusedVariables false

def NoTwo (pl : List LPl) : Prop := ∀ (i j : Nat) (hi : i < pl.length) (hj : j < pl.length), i < j → pl[i] ≠ pl[j]
theorem rise_nodup {rs : List LSt} {ps : List LPr} {pl : List LPl} (h : IdsR rs ps (pidsL pl)) (i j : Nat) (hi : i < pl.length) (hj : j < pl.length) (hij : i < j) : pl[i] ≠ pl[j] := fun e => by
  have IR := inRise_of h.2.1.2.2.1 h.2.2.1 h.2.2.2
  have := rise_lt _ _ _ IR i j hij (by rw [pidsL_len]; exact hj)
  simp [pidsL, hi, hj, e] at this
theorem own_e2 (w : World) : (w.alloc (.cells #[] 2)).ownsRow w.heap.size 2 1 (.slice (some ⟨w.heap.size, 0, none⟩) 0 0) 0 (valsZ []) := own_none5 w

set_option maxRecDepth 100000 in
set_option maxHeartbeats 4000000 in
/-- spec.TruesOf. -/
theorem sto_any (sl : Option Addr) (cap : Nat) (sl2 : Option Addr) (cap2 : Nat) (sl3 : Option Addr) (cap3 : Nat) (rs : List LSt) (ps : List LPr) (pl : List LPl) (top : Int) (w : World) (hn : rs.length ≤ 1048576) (hl : pl.length ≤ 1048576) (hz : Sts w sl rs) (hp : Prs w sl2 ps) (hi : Pls w sl3 pl) :
    Calls Try.prog 60 #[TV sl rs.length cap sl2 ps.length cap2, .int .i64 top, .slice sl3 pl.length cap3] w fun e w' => ∃ v, e = .returned v ∧ w'.ownsRow w.heap.size 2 1 v (trA rs ps top pl).length (valsZ (trA rs ps top pl)) ∧ Below w.heap.size w w' := by
  obtain ⟨i0, hi0, hz0, hz1, hz2⟩ := info_parts info2'
  have HT := Lib.hid (TabAt.new w sl rs.length cap sl2 ps.length cap2)
  have B0 := Lib.hid (bA (bA0 w (.cells #[.slice sl rs.length cap, .slice sl2 ps.length cap2] 26)) (.cells #[] 2))
  have X0 := Lib.hid (HT.out.below (bA0 (w.alloc (.cells #[.slice sl rs.length cap, .slice sl2 ps.length cap2] 26)) (.cells #[] 2)))
  have O0 := Lib.hid (own_e2 (w.alloc (.cells #[.slice sl rs.length cap, .slice sl2 ps.length cap2] 26)))
  rw [show (w.alloc (.cells #[.slice sl rs.length cap, .slice sl2 ps.length cap2] 26)).heap.size = w.heap.size + 1 by simp] at O0
  have E1 : Hid (∀ W, Below w.heap.size w W → Calls Try.prog 22 #[TV sl rs.length cap sl2 ps.length cap2, .int .i64 top, .slice sl3 pl.length cap3] W fun e w' => e = .returned (.bool (planB rs ps top pl)) ∧ Below W.heap.size W w') := fun W hW => spr_any sl cap sl2 cap2 sl3 cap3 rs ps pl top W hn hl (hz.below hW) (hp.below hW) (hi.below hW)
  by_cases h4 : 400 < pl.length
  · have h4' : (400 : Int) < (pl.length : Int) := by omega
    have TA : trA rs ps top pl = [] := by
      unfold trA planB
      rw [show decide (pl.length ≤ 400) = false by rw [decide_eq_false_iff_not]; omega]
      rfl
    rw [TA]
    have P := Lib.hid (own_mono O0.out (Nat.le_succ w.heap.size))
    clear hz hp hi TA E1 O0 X0 HT
    generalize rs.length = rn at *
    generalize ps.length = pn at *
    generalize pl.length = m at *
    go_enter Try.func60, Try.ntmps60
    go_wp2
    go_ret
    exact ⟨_, rfl, P.out, B0.out⟩
  have h4' : ¬ (400 : Int) < (pl.length : Int) := by omega
  cases hb : planB rs ps top pl with
  | false =>
    have TA : trA rs ps top pl = [] := by unfold trA; rw [hb]; rfl
    rw [TA]
    rw [hb] at E1
    have P := Lib.hid (own_mono O0.out (Nat.le_succ w.heap.size))
    clear hb hz hp hi TA O0 X0 HT
    generalize rs.length = rn at *
    generalize ps.length = pn at *
    generalize pl.length = m at *
    go_enter Try.func60, Try.ntmps60
    go_wp2_with fail
    refine (E1.out _ B0.out).mono ?_
    rintro e w1 ⟨rfl, b1⟩
    have D1 := Lib.hid (bT B0.out b1)
    have P1 := Lib.hid (own_below P.out b1)
    clear b1 E1 P
    go_wp2
    go_ret
    exact ⟨_, rfl, P1.out, D1.out⟩
  | true =>
    rw [hb] at E1
    obtain ⟨h400, IR⟩ := planB_ids hb
    have TA : trA rs ps top pl = trK pl (plF rs top (pidsL pl)) (plF rs top (pidsL pl)).length := by unfold trA; rw [hb]; rfl
    rw [TA]
    have hpl : (plF rs top (pidsL pl)).length ≤ 38400 := by
      have := plF_le top (pidsL pl) IR.2.1
      rw [pidsL_len] at this
      omega
    have ND := Lib.hid (show NoTwo pl from rise_nodup IR)
    have E2 : Hid (∀ W, Below w.heap.size w W → Calls Try.prog 24 #[.slice sl3 pl.length cap3] W fun e w' => ∃ s c, e = .returned (.slice s (pidsL pl).length c) ∧ Ints w' s (pidsL pl) ∧ Below W.heap.size W w') := fun W hW => by
      have := spi_any sl3 cap3 pl W (by unfold maxLen; omega) (hi.below hW)
      rw [pidsA_eq h400] at this
      refine this.mono ?_
      rintro e w' ⟨v, rfl, o, b⟩
      obtain ⟨s, c, rfl, i⟩ := own_ints o
      exact ⟨s, c, rfl, i, b⟩
    have E3 : Hid (∀ s c W, Below w.heap.size w W → Ints W s (pidsL pl) → Calls Try.prog 90 #[TV sl rs.length cap sl2 ps.length cap2, .int .i64 top, .slice s (pidsL pl).length c] W fun e w' => ∃ v, e = .returned v ∧ w'.ownsRow W.heap.size 34 2 v (plF rs top (pidsL pl)).length (enCells (plF rs top (pidsL pl))) ∧ Below W.heap.size W w') := fun s c W hW i => vars_any sl cap sl2 cap2 s c rs ps top (pidsL pl) W hn (by rw [pidsL_len]; exact h400) (hz.below hW) (hp.below hW) IR.2.1 i
    have HI := Lib.hid hi
    clear hb hz hp hi TA IR
    generalize hPQ : plF rs top (pidsL pl) = qs at *
    clear hPQ
    generalize (pidsL pl).length = idn at *
    generalize rs.length = rn at *
    generalize ps.length = pn at *
    generalize hM : pl.length = m at *
    have HM := Lib.hid hM
    clear hM
    go_enter Try.func60, Try.ntmps60
    go_wp2_with fail
    refine (E1.out _ B0.out).mono ?_
    rintro e w1 ⟨rfl, b1⟩
    have D1 := Lib.hid (bT B0.out b1)
    have X1 := Lib.hid (X0.out.below b1)
    have O1 := Lib.hid (own_below O0.out b1)
    have hw1 := X1.out.lt
    clear b1 E1 HT X0 O0
    have KB : Hid (∀ W, Below w1.heap.size w1 W → w.heap.size < W.heap.size ∧ W.cell? ⟨w.heap.size, 0, none⟩ = some (.slice sl rn cap) ∧ W.cell? ⟨w.heap.size, 1, none⟩ = some (.slice sl2 pn cap2)) := fun W hW => by
      obtain ⟨k0, k1⟩ := (X1.out.below hW).cells
      exact ⟨(X1.out.below hW).lt, k0, k1⟩
    go_wp2_with fail
    refine wp_region_held_drew (S := fun W => w.heap.size < W.heap.size ∧ W.cell? ⟨w.heap.size, 0, none⟩ = some (.slice sl rn cap) ∧ W.cell? ⟨w.heap.size, 1, none⟩ = some (.slice sl2 pn cap2)) (by kernel_rfl) ?_ (fun hHeld => ?_)
    · exact KB.out _ (Below.refl _ _).drew
    refine wpAnyH_take (i := 0) (oi := _) (v := ?_) rfl (by kernel_rfl) (by kernel_rfl) (by kernel_rfl) (fun _ _ _ h => h) (Or.inl ⟨by rfl, ?_⟩) (by assumption) ?_
    rotate_left
    · first | (intro w hSw; (try dsimp only at hSw); go_simp; done) | (intro w hSw; (try dsimp only at hSw); go_simp; with_reducible rfl)
    try simp only [Act.put, List.setIfInBounds_toArray, List.set_cons_zero, List.set_cons_succ, List.getElem_toArray, List.getElem_cons_zero]
    refine wpAnyH_take (i := 1) (oi := _) (v := ?_) rfl (by kernel_rfl) (by kernel_rfl) (by kernel_rfl) (fun _ _ _ h => h) (Or.inl ⟨by rfl, ?_⟩) (by assumption) ?_
    rotate_left
    · first | (intro w hSw; (try dsimp only at hSw); go_simp; done) | (intro w hSw; (try dsimp only at hSw); go_simp; with_reducible rfl)
    try simp only [Act.put, List.setIfInBounds_toArray, List.set_cons_zero, List.set_cons_succ, List.getElem_toArray, List.getElem_cons_succ, List.getElem_cons_zero]
    refine wpAnyH_take (i := 2) (oi := _) (v := ?_) rfl (by kernel_rfl) (by kernel_rfl) (by kernel_rfl) (fun _ _ _ h => h) (Or.inl ⟨by rfl, ?_⟩) (by assumption) ?_
    rotate_left
    · first | (intro w hSw; (try dsimp only at hSw); go_simp; done) | (intro w hSw; (try dsimp only at hSw); go_simp; with_reducible rfl)
    try simp only [Act.put, List.setIfInBounds_toArray, List.set_cons_zero, List.set_cons_succ, List.getElem_toArray, List.getElem_cons_succ, List.getElem_cons_zero]
    refine wpAnyH_ready (rs := [3]) (by kernel_rfl) (by simp) ?_
    refine AllReadyH.cons rfl (fun K hK => ?_) AllReadyH.nil
    go_simp
    go_wp2_with (go_at_call 24; refine (E2.out _ D1.out.drew).mono ?_; rintro e w3 ⟨s3, c3, rfl, z3, b3⟩)
    have F3 : Hid (Below w1.heap.size w1 w3) := bT ((Below.refl w1.heap.size w1).drew) b3
    have D3 := Lib.hid (bT D1.out F3.out)
    have Z3 := Lib.hid z3
    clear b3 z3
    refine hK.out _ _ ?_ (fun hHeld => ?_)
    · exact KB.out _ F3.out
    clear hK K
    refine wpAnyH_ready (rs := [4]) (by kernel_rfl) (by simp) ?_
    refine AllReadyH.cons rfl (fun K hK => ?_) AllReadyH.nil
    go_simp
    go_wp2_with (go_at_call 90; refine (E3.out s3 c3 _ D3.out Z3.out).mono ?_; rintro e w5 ⟨v5, rfl, o5, b5⟩)
    have F5 : Hid (Below w1.heap.size w1 w5) := bT F3.out b5
    have D5 := Lib.hid (bT D3.out b5)
    have O5 := Lib.hid o5
    clear b5 o5
    refine hK.out _ _ ?_ (fun hHeld => ?_)
    · exact KB.out _ F5.out
    clear hK K
    refine wpAnyH_take (i := 5) (oi := _) (v := ?_) rfl (by kernel_rfl) (by kernel_rfl) (by kernel_rfl) (fun _ _ _ h => h) (Or.inl ⟨by rfl, ?_⟩) (by assumption) ?_
    rotate_left
    · first | (intro w hSw; (try dsimp only at hSw); go_simp; done) | (intro w hSw; (try dsimp only at hSw); go_simp; with_reducible rfl)
    try simp only [Act.put, List.setIfInBounds_toArray, List.set_cons_zero, List.set_cons_succ, List.getElem_toArray, List.getElem_cons_succ, List.getElem_cons_zero]
    refine wpAnyH_done (by kernel_rfl) ?_ _
    have OO := Lib.hid (own_below O1.out F5.out)
    obtain ⟨wb, hwb⟩ : ∃ wb, wb = w3.heap.size := ⟨_, rfl⟩
    rw [← hwb] at O5
    have hw5 := F5.out.size
    clear KB E2 E3 D3 F3 Z3 X1 F5 O1 hwb
    obtain ⟨s5, c5, rfl⟩ := own_v O5.out
    generalize hQN : qs.length = q at *
    have HQ := Lib.hid hQN
    clear hQN
    go_wp2_with fail
    go_loopw [7, 9] (fun v j wr => ∃ (k : Nat) (cu : List Int), j = .int .i64 k ∧ k ≤ q ∧ cu.length ≤ k ∧ Hid (cu = trK pl qs k) ∧ Hid (wr.ownsRow (w.heap.size + 1) 2 1 v cu.length (valsZ cu)) ∧ Hid (wr.ownsRow wb 34 2 (.slice s5 q c5) q (enCells qs)) ∧ Hid (Below (w.heap.size + 1) w5 wr)) (fun _ j _ => q - (intOf j).toNat)
    case atStart => exact ⟨0, [], rfl, Nat.zero_le _, Nat.zero_le _, rfl, OO, O5, Below.refl _ _⟩
    case round =>
      obtain ⟨k, cu, rfl, hk, hcl, HC, OR, OZ, HB⟩ := hrel
      have hk0 : (0 : Int) ≤ (k : Int) := by omega
      by_cases g1 : k < q
      · have g1' : (k : Int) < (q : Int) := by omega
        have hlt : k < qs.length := by rw [HQ.out]; exact g1
        obtain ⟨a, b, hp⟩ : ∃ a b, qs[k] = (a, b) := ⟨_, _, rfl⟩
        have GD := Lib.hid (show qs.getD k (0, 0) = (a, b) by rw [← hp]; simp [hlt])
        have EC := enCells_at qs k hlt
        rw [hp] at EC
        dsimp only at EC
        have QC := Lib.hid (show ∀ W : World, W.ownsRow wb 34 2 (.slice s5 q c5) q (enCells qs) → ∃ c, s5 = some ⟨c, 0, none⟩ ∧ c < W.heap.size ∧ W.cell? ⟨c, k * 2, none⟩ = some (.int .i64 a) ∧ W.cell? ⟨c, k * 2 + 1, none⟩ = some (.int .i64 b) from fun W hZ => by
          have hZ2 := hZ
          rcases hZ.2 with ⟨_, h0⟩ | ⟨g, cp, cur, hv, _, hg, _⟩
          · omega
          · obtain rfl : s5 = some ⟨g, 0, none⟩ := (Value.slice.inj hv).1
            exact ⟨g, rfl, (Array.getElem?_eq_some_iff.1 hg).1, by rw [hZ2.cellAt (k * 2) (by omega), EC.1], by rw [hZ2.cellAt (k * 2 + 1) (by omega), EC.2]⟩)
        have TS := Lib.hid (show ∀ r, r = B ((a, b) ∈ pl) → trK pl qs (k + 1) = trK pl qs k ++ (if r = true then [(k : Int) + 1] else []) from fun r hr => by
          cases r with
          | true => rw [if_pos rfl]; exact trK_yes pl qs k (by rw [GD.out]; exact hr.symm)
          | false => rw [if_neg Bool.false_ne_true, List.append_nil]; exact trK_no pl qs k (by rw [GD.out]; exact hr.symm))
        clear hp hlt EC GD
        go_wp2
        go_loopw [7, 10] (fun v j wq => ∃ (i : Nat) (cv : List Int), j = .int .i64 i ∧ i ≤ m ∧ cv.length ≤ k + 1 ∧ Hid (cv = cu ++ (if B ((a, b) ∈ pl.take i) = true then [(k : Int) + 1] else [])) ∧ Hid (wq.ownsRow (w.heap.size + 1) 2 1 v cv.length (valsZ cv)) ∧ Hid (wq.ownsRow wb 34 2 (.slice s5 q c5) q (enCells qs)) ∧ Hid (Below (w.heap.size + 1) w5 wq)) (fun _ j _ => m - (intOf j).toNat)
        case atStart => exact ⟨0, cu, rfl, Nat.zero_le _, by omega, (by show cu = cu ++ _; rw [B_no (p := (a, b) ∈ pl.take 0) (by simp)]; simp), OR, OZ, HB⟩
        case round =>
          obtain ⟨i, cv, rfl, hi, hcv, HV, OR, OZ, HB⟩ := hrel
          have hi0' : (0 : Int) ≤ (i : Int) := by omega
          have DW := Lib.hid (D5.out.trans (HB.out.mono (Nat.le_succ _)))
          by_cases g2 : i < m
          · have g2' : (i : Int) < (m : Int) := by omega
            have hlt : i < pl.length := by rw [HM.out]; exact g2
            obtain ⟨g, o, rfl, PA⟩ : ∃ g o, sl3 = some ⟨g, o, none⟩ ∧ PlAt w g o pl := by
              rcases HI.out with e | h
              · rw [e] at hlt; simp at hlt
              · exact h
            have PB := PA.below DW.out
            obtain ⟨c0, c1⟩ := PB.cell i hlt
            have gl := PB.lt
            obtain ⟨x, y, hp⟩ : ∃ x y, pl[i] = (x, y) := ⟨_, _, rfl⟩
            rw [hp] at c0 c1
            dsimp only at c0 c1
            obtain ⟨c, rfl, cl, d0, d1⟩ := QC.out _ OZ.out
            have hgt : Try.prog.eqGuardType Try.prog.depth 34 = false := by kernel_rfl
            have hnq := eq34 x y a b
            have KB : Hid (g < wr.drew.heap.size ∧ c < wr.drew.heap.size ∧ wr.drew.cell? ⟨g, o + i * 2, none⟩ = some (.int .i64 x) ∧ wr.drew.cell? ⟨g, o + i * 2 + 1, none⟩ = some (.int .i64 y) ∧ wr.drew.cell? ⟨c, k * 2, none⟩ = some (.int .i64 a) ∧ wr.drew.cell? ⟨c, k * 2 + 1, none⟩ = some (.int .i64 b)) := ⟨gl, cl, c0, c1, d0, d1⟩
            have tk : pl.take (i + 1) = pl.take i ++ [(x, y)] := by rw [List.take_succ_eq_append_getElem hlt, hp]
            by_cases hac : x = a ∧ y = b
            · have hnb : (x == a && y == b) = true := by simp [hac]
              have hab : pl[i] = (a, b) := by rw [hp, hac.1, hac.2]
              rw [hnb] at hnq
              have NB : B ((a, b) ∈ pl.take i) = false := B_no (fun g => by
                obtain ⟨j, hj, e⟩ := List.getElem_of_mem g
                have hj' : j < i := by rw [List.length_take] at hj; omega
                rw [List.getElem_take] at e
                exact ND.out j i (by omega) hlt hj' (by rw [e, hab]))
              have CS := Lib.hid (show cv ++ [(k : Int) + 1] = cu ++ (if B ((a, b) ∈ pl.take (i + 1)) = true then [(k : Int) + 1] else []) by
                rw [HV.out, NB, B_yes (show (a, b) ∈ pl.take (i + 1) by rw [tk, hac.1, hac.2]; simp)]; simp)
              have LV := Lib.hid (show cv.length ≤ k by rw [HV.out, NB]; simpa using hcl)
              have EV := Lib.hid (show valsZ cv ++ [.int .i64 ((k : Int) + 1)] = valsZ (cv ++ [(k : Int) + 1]) by simp [valsZ])
              have hlv := LV.out
              have hsw : w.heap.size + 1 ≤ wr.heap.size := by have := HB.out.size; omega
              have O2 : Hid (wr.drew.ownsRow (w.heap.size + 1) 2 1 _ cv.length (valsZ cv)) := OR.out
              have Z2 : Hid (wr.drew.ownsRow wb 34 2 (.slice (some ⟨c, 0, none⟩) q c5) q (enCells qs)) := OZ.out
              have H2 := Lib.hid HB.out.drew
              clear hp hab hlt PA PB hnb NB tk HV OR OZ HB DW c0 c1 d0 d1 hac
              go_wp2_with fail
              refine wp_region_held_drew (S := fun W => g < W.heap.size ∧ c < W.heap.size ∧ W.cell? ⟨g, o + i * 2, none⟩ = some (.int .i64 x) ∧ W.cell? ⟨g, o + i * 2 + 1, none⟩ = some (.int .i64 y) ∧ W.cell? ⟨c, k * 2, none⟩ = some (.int .i64 a) ∧ W.cell? ⟨c, k * 2 + 1, none⟩ = some (.int .i64 b)) (by kernel_rfl) ?_ (fun hHeld => ?_)
              · exact KB.out
              refine wpAnyH_take (i := 0) (oi := _) (v := ?_) rfl (by kernel_rfl) (by kernel_rfl) (by kernel_rfl) (fun _ _ _ h => h) (Or.inl ⟨by rfl, ?_⟩) (by assumption) ?_
              rotate_left
              · first | (intro w hSw; (try dsimp only at hSw); go_simp; done) | (intro w hSw; (try dsimp only at hSw); go_simp; with_reducible rfl)
              try simp only [Act.put, List.setIfInBounds_toArray, List.set_cons_zero, List.set_cons_succ, List.getElem_toArray, List.getElem_cons_zero]
              refine wpAnyH_take (i := 1) (oi := _) (v := ?_) rfl (by kernel_rfl) (by kernel_rfl) (by kernel_rfl) (fun _ _ _ h => h) (Or.inl ⟨by rfl, ?_⟩) (by assumption) ?_
              rotate_left
              · first | (intro w hSw; (try dsimp only at hSw); go_simp; done) | (intro w hSw; (try dsimp only at hSw); go_simp; with_reducible rfl)
              try simp only [Act.put, List.setIfInBounds_toArray, List.set_cons_zero, List.set_cons_succ, List.getElem_toArray, List.getElem_cons_succ, List.getElem_cons_zero]
              refine wpAnyH_take (i := 2) (oi := _) (v := ?_) rfl (by kernel_rfl) (by kernel_rfl) (by kernel_rfl) (fun _ _ _ h => h) (Or.inl ⟨by rfl, ?_⟩) (by assumption) ?_
              rotate_left
              · first | (intro w hSw; (try dsimp only at hSw); go_simp; done) | (intro w hSw; (try dsimp only at hSw); go_simp; with_reducible rfl)
              try simp only [Act.put, List.setIfInBounds_toArray, List.set_cons_zero, List.set_cons_succ, List.getElem_toArray, List.getElem_cons_succ, List.getElem_cons_zero]
              refine wpAnyH_take (i := 3) (oi := _) (v := ?_) rfl (by kernel_rfl) (by kernel_rfl) (by kernel_rfl) (fun _ _ _ h => h) (Or.inl ⟨by rfl, ?_⟩) (by assumption) ?_
              rotate_left
              · first | (intro w hSw; (try dsimp only at hSw); go_simp; done) | (intro w hSw; (try dsimp only at hSw); go_simp; with_reducible rfl)
              try simp only [Act.put, List.setIfInBounds_toArray, List.set_cons_zero, List.set_cons_succ, List.getElem_toArray, List.getElem_cons_succ, List.getElem_cons_zero]
              refine wpAnyH_take (i := 4) (oi := _) (v := ?_) rfl (by kernel_rfl) (by kernel_rfl) (by kernel_rfl) (fun _ _ _ h => h) (Or.inl ⟨by rfl, ?_⟩) (by assumption) ?_
              rotate_left
              · first | (intro w hSw; (try dsimp only at hSw); go_simp; done) | (intro w hSw; (try dsimp only at hSw); go_simp; with_reducible rfl)
              try simp only [Act.put, List.setIfInBounds_toArray, List.set_cons_zero, List.set_cons_succ, List.getElem_toArray, List.getElem_cons_succ, List.getElem_cons_zero]
              refine wpAnyH_take (i := 5) (oi := _) (v := ?_) rfl (by kernel_rfl) (by kernel_rfl) (by kernel_rfl) (fun _ _ _ h => h) (Or.inl ⟨by rfl, ?_⟩) (by assumption) ?_
              rotate_left
              · first | (intro w hSw; (try dsimp only at hSw); go_simp; done) | (intro w hSw; (try dsimp only at hSw); go_simp; with_reducible rfl)
              try simp only [Act.put, List.setIfInBounds_toArray, List.set_cons_zero, List.set_cons_succ, List.getElem_toArray, List.getElem_cons_succ, List.getElem_cons_zero]
              refine wpAnyH_take (i := 6) (oi := _) (v := ?_) rfl (by kernel_rfl) (by kernel_rfl) (by kernel_rfl) (fun _ _ _ h => h) (Or.inl ⟨by rfl, ?_⟩) (by assumption) ?_
              rotate_left
              · first | (intro w hSw; (try dsimp only at hSw); go_simp; done) | (intro w hSw; (try dsimp only at hSw); go_simp; with_reducible rfl)
              try simp only [Act.put, List.setIfInBounds_toArray, List.set_cons_zero, List.set_cons_succ, List.getElem_toArray, List.getElem_cons_succ, List.getElem_cons_zero]
              refine wpAnyH_take (i := 7) (oi := _) (v := ?_) rfl (by kernel_rfl) (by kernel_rfl) (by kernel_rfl) (fun _ _ _ h => h) (Or.inl ⟨by rfl, ?_⟩) (by assumption) ?_
              rotate_left
              · first | (intro w hSw; (try dsimp only at hSw); go_simp; done) | (intro w hSw; (try dsimp only at hSw); go_simp; with_reducible rfl)
              try simp only [Act.put, List.setIfInBounds_toArray, List.set_cons_zero, List.set_cons_succ, List.getElem_toArray, List.getElem_cons_succ, List.getElem_cons_zero]
              refine wpAnyH_take (i := 8) (oi := _) (v := ?_) rfl (by kernel_rfl) (by kernel_rfl) (by kernel_rfl) (fun _ _ _ h => h) (Or.inl ⟨by rfl, ?_⟩) (by assumption) ?_
              rotate_left
              · first | (intro w hSw; (try dsimp only at hSw); go_simp; done) | (intro w hSw; (try dsimp only at hSw); go_simp; with_reducible rfl)
              try simp only [Act.put, List.setIfInBounds_toArray, List.set_cons_zero, List.set_cons_succ, List.getElem_toArray, List.getElem_cons_succ, List.getElem_cons_zero]
              refine wpAnyH_done (by kernel_rfl) ?_ _
              go_wp2_with (first | (at_builtin; refine wpList_append_lies _ rfl (.tmp 49) (.tmp 52) 40 rfl (w.heap.size + 1) 2 i0 (.int .i64 0) 1 8 Try.underlying40 hi0 hz0 hz1 hz2 rfl (by decide) _ _ _ rfl (O2.out.alloc _) ⟨wr.heap.size, 0, none⟩ 1 1 [.int .i64 ((k : Int) + 1)] rfl rfl (cell_one_new wr.drew _ _) (by intro u hu; simp at hu; subst hu; rfl) (by decide) (by unfold maxLen; omega) (by omega) (by simp; omega) (wr.heap.size + 1) (by simp) ?_))
              intro g9 cap9 w9 own9 grow9 hg9 hlt9
              have B9 := Lib.hid ((bA1 H2.out (.cells #[.int .i64 ((k : Int) + 1)] 2) (by simpa using hsw)).grown grow9 (by simp; omega) (fun j hj => (O2.out.lt j hj).1))
              have Z9 := Lib.hid ((Z2.out.alloc (.cells #[.int .i64 ((k : Int) + 1)] 2)).kept grow9 (own_diff (Z2.out.alloc (.cells #[.int .i64 ((k : Int) + 1)] 2)) (O2.out.alloc (.cells #[.int .i64 ((k : Int) + 1)] 2)) (by decide)))
              rw [EV.out] at own9
              have N9 : Hid (w9.ownsRow (w.heap.size + 1) 2 1 (.slice (some ⟨g9, 0, none⟩) (cv.length + 1) cap9) (cv ++ [(k : Int) + 1]).length (valsZ (cv ++ [(k : Int) + 1]))) := by
                rw [List.length_append]; exact own9
              have LL := Lib.hid (show (cv ++ [(k : Int) + 1]).length ≤ k + 1 by rw [List.length_append]; simp; omega)
              clear own9 grow9 hg9 hlt9 O2 Z2 H2 EV
              go_wp2
              go_roundw
              case rel => exact ⟨i + 1, cv ++ [(k : Int) + 1], by go_num, by omega, LL.out, CS, N9, Z9, B9⟩
              case measure => simp [intOf]; omega
            · have hnb : (x == a && y == b) = false := by
                simp
                intro h h2
                exact hac ⟨h, h2⟩
              rw [hnb] at hnq
              have CS := Lib.hid (show cv = cu ++ (if B ((a, b) ∈ pl.take (i + 1)) = true then [(k : Int) + 1] else []) by
                rw [HV.out, B_iff (show (a, b) ∈ pl.take (i + 1) ↔ (a, b) ∈ pl.take i by
                  rw [tk, List.mem_append, List.mem_singleton]
                  constructor
                  · rintro (h | h)
                    · exact h
                    · exact absurd ⟨(Prod.mk.inj h).1.symm, (Prod.mk.inj h).2.symm⟩ hac
                  · exact .inl)])
              have O2 : Hid (wr.drew.ownsRow (w.heap.size + 1) 2 1 _ cv.length (valsZ cv)) := OR.out
              have Z2 : Hid (wr.drew.ownsRow wb 34 2 (.slice (some ⟨c, 0, none⟩) q c5) q (enCells qs)) := OZ.out
              have H2 := Lib.hid HB.out.drew
              clear hp hlt PA PB hnb tk HV OR OZ HB DW c0 c1 d0 d1 hac
              go_wp2_with fail
              refine wp_region_held_drew (S := fun W => g < W.heap.size ∧ c < W.heap.size ∧ W.cell? ⟨g, o + i * 2, none⟩ = some (.int .i64 x) ∧ W.cell? ⟨g, o + i * 2 + 1, none⟩ = some (.int .i64 y) ∧ W.cell? ⟨c, k * 2, none⟩ = some (.int .i64 a) ∧ W.cell? ⟨c, k * 2 + 1, none⟩ = some (.int .i64 b)) (by kernel_rfl) ?_ (fun hHeld => ?_)
              · exact KB.out
              refine wpAnyH_take (i := 0) (oi := _) (v := ?_) rfl (by kernel_rfl) (by kernel_rfl) (by kernel_rfl) (fun _ _ _ h => h) (Or.inl ⟨by rfl, ?_⟩) (by assumption) ?_
              rotate_left
              · first | (intro w hSw; (try dsimp only at hSw); go_simp; done) | (intro w hSw; (try dsimp only at hSw); go_simp; with_reducible rfl)
              try simp only [Act.put, List.setIfInBounds_toArray, List.set_cons_zero, List.set_cons_succ, List.getElem_toArray, List.getElem_cons_zero]
              refine wpAnyH_take (i := 1) (oi := _) (v := ?_) rfl (by kernel_rfl) (by kernel_rfl) (by kernel_rfl) (fun _ _ _ h => h) (Or.inl ⟨by rfl, ?_⟩) (by assumption) ?_
              rotate_left
              · first | (intro w hSw; (try dsimp only at hSw); go_simp; done) | (intro w hSw; (try dsimp only at hSw); go_simp; with_reducible rfl)
              try simp only [Act.put, List.setIfInBounds_toArray, List.set_cons_zero, List.set_cons_succ, List.getElem_toArray, List.getElem_cons_succ, List.getElem_cons_zero]
              refine wpAnyH_take (i := 2) (oi := _) (v := ?_) rfl (by kernel_rfl) (by kernel_rfl) (by kernel_rfl) (fun _ _ _ h => h) (Or.inl ⟨by rfl, ?_⟩) (by assumption) ?_
              rotate_left
              · first | (intro w hSw; (try dsimp only at hSw); go_simp; done) | (intro w hSw; (try dsimp only at hSw); go_simp; with_reducible rfl)
              try simp only [Act.put, List.setIfInBounds_toArray, List.set_cons_zero, List.set_cons_succ, List.getElem_toArray, List.getElem_cons_succ, List.getElem_cons_zero]
              refine wpAnyH_take (i := 3) (oi := _) (v := ?_) rfl (by kernel_rfl) (by kernel_rfl) (by kernel_rfl) (fun _ _ _ h => h) (Or.inl ⟨by rfl, ?_⟩) (by assumption) ?_
              rotate_left
              · first | (intro w hSw; (try dsimp only at hSw); go_simp; done) | (intro w hSw; (try dsimp only at hSw); go_simp; with_reducible rfl)
              try simp only [Act.put, List.setIfInBounds_toArray, List.set_cons_zero, List.set_cons_succ, List.getElem_toArray, List.getElem_cons_succ, List.getElem_cons_zero]
              refine wpAnyH_take (i := 4) (oi := _) (v := ?_) rfl (by kernel_rfl) (by kernel_rfl) (by kernel_rfl) (fun _ _ _ h => h) (Or.inl ⟨by rfl, ?_⟩) (by assumption) ?_
              rotate_left
              · first | (intro w hSw; (try dsimp only at hSw); go_simp; done) | (intro w hSw; (try dsimp only at hSw); go_simp; with_reducible rfl)
              try simp only [Act.put, List.setIfInBounds_toArray, List.set_cons_zero, List.set_cons_succ, List.getElem_toArray, List.getElem_cons_succ, List.getElem_cons_zero]
              refine wpAnyH_take (i := 5) (oi := _) (v := ?_) rfl (by kernel_rfl) (by kernel_rfl) (by kernel_rfl) (fun _ _ _ h => h) (Or.inl ⟨by rfl, ?_⟩) (by assumption) ?_
              rotate_left
              · first | (intro w hSw; (try dsimp only at hSw); go_simp; done) | (intro w hSw; (try dsimp only at hSw); go_simp; with_reducible rfl)
              try simp only [Act.put, List.setIfInBounds_toArray, List.set_cons_zero, List.set_cons_succ, List.getElem_toArray, List.getElem_cons_succ, List.getElem_cons_zero]
              refine wpAnyH_take (i := 6) (oi := _) (v := ?_) rfl (by kernel_rfl) (by kernel_rfl) (by kernel_rfl) (fun _ _ _ h => h) (Or.inl ⟨by rfl, ?_⟩) (by assumption) ?_
              rotate_left
              · first | (intro w hSw; (try dsimp only at hSw); go_simp; done) | (intro w hSw; (try dsimp only at hSw); go_simp; with_reducible rfl)
              try simp only [Act.put, List.setIfInBounds_toArray, List.set_cons_zero, List.set_cons_succ, List.getElem_toArray, List.getElem_cons_succ, List.getElem_cons_zero]
              refine wpAnyH_take (i := 7) (oi := _) (v := ?_) rfl (by kernel_rfl) (by kernel_rfl) (by kernel_rfl) (fun _ _ _ h => h) (Or.inl ⟨by rfl, ?_⟩) (by assumption) ?_
              rotate_left
              · first | (intro w hSw; (try dsimp only at hSw); go_simp; done) | (intro w hSw; (try dsimp only at hSw); go_simp; with_reducible rfl)
              try simp only [Act.put, List.setIfInBounds_toArray, List.set_cons_zero, List.set_cons_succ, List.getElem_toArray, List.getElem_cons_succ, List.getElem_cons_zero]
              refine wpAnyH_take (i := 8) (oi := _) (v := ?_) rfl (by kernel_rfl) (by kernel_rfl) (by kernel_rfl) (fun _ _ _ h => h) (Or.inl ⟨by rfl, ?_⟩) (by assumption) ?_
              rotate_left
              · first | (intro w hSw; (try dsimp only at hSw); go_simp; done) | (intro w hSw; (try dsimp only at hSw); go_simp; with_reducible rfl)
              try simp only [Act.put, List.setIfInBounds_toArray, List.set_cons_zero, List.set_cons_succ, List.getElem_toArray, List.getElem_cons_succ, List.getElem_cons_zero]
              refine wpAnyH_done (by kernel_rfl) ?_ _
              go_wp2_with fail
              go_roundw
              case rel => exact ⟨i + 1, cv, by go_num, by omega, hcv, CS, O2, Z2, H2⟩
              case measure => simp [intOf]; omega
          · have g2' : ¬ (i : Int) < (m : Int) := by omega
            have CE := Lib.hid (show cv = trK pl qs (k + 1) by
              rw [TS.out _ rfl, ← HC.out]
              have := HV.out
              rwa [List.take_of_length_le (show pl.length ≤ i by rw [HM.out]; omega)] at this)
            clear HV TS
            go_wp2
            go_roundw
            case rel => exact ⟨k + 1, cv, by go_num, by omega, hcv, CE, OR, OZ, HB⟩
            case measure => simp [intOf]; omega
      · have g1' : ¬ (k : Int) < (q : Int) := by omega
        have ek : k = q := by omega
        have P := Lib.hid (own_mono OR.out (Nat.le_succ w.heap.size))
        rw [HC.out, ek, ← HQ.out] at P
        have BB := Lib.hid (D5.out.trans (HB.out.mono (Nat.le_succ _)))
        clear OR HC ek OZ
        go_wp2
        go_ret
        exact ⟨_, rfl, P.out, BB.out⟩

end Go.Proofs.Ytdmfljejlhlbnaa
namespace Go.Proofs.Ytdmfljejlhlbnaa
open Go.RowKit
set_option linter.unusedVariables false

/-- The first i cells of a row of places hold the marks. -/
def MarkQ (w : World) (b s : Nat) (k : Int) (i : Nat) : Prop := ∃ vs : Array Value, w.heap[b]? = some (.cells vs 34) ∧ vs.size = s ∧ ∀ j, j < i → vs[j]? = some (.int .i64 (k + (j : Int)))
theorem MarkQ.step {w : World} {b s : Nat} {k : Int} {i : Nat} (h : MarkQ w b s k i) (hi : i < s) : MarkQ (w.setCell ⟨b, i, none⟩ (.int .i64 (k + (i : Int)))) b s k (i + 1) := by
  obtain ⟨vs, h1, h2, h3⟩ := h
  refine ⟨_, heap_setCell_same w b i vs 34 _ h1, by simp [h2], fun j hj => ?_⟩
  rw [Array.getElem?_setIfInBounds]
  by_cases e : i = j
  · subst e; simp [h2, hi]
  · rw [if_neg e]; exact h3 j (by omega)
theorem MarkQ.cell {w : World} {b s : Nat} {k : Int} {i : Nat} (h : MarkQ w b s k i) (j : Nat) (hj : j < s) : (∃ v, w.cell? ⟨b, j, none⟩ = some v) ∧ w.frozen? ⟨b, j, none⟩ = false := by
  obtain ⟨vs, h1, h2, h3⟩ := h
  exact ⟨⟨vs[j]'(by omega), by simp [World.cell?, h1, show j < vs.size by omega]⟩, by simp [World.frozen?, h1]⟩
theorem MarkQ.at {w : World} {b s : Nat} {k : Int} {i : Nat} (h : MarkQ w b s k i) (j : Nat) (hj : j < i) : w.cell? ⟨b, j, none⟩ = some (.int .i64 (k + (j : Int))) := by
  obtain ⟨vs, h1, h2, h3⟩ := h
  have := h3 j hj
  simp [World.cell?, h1, this]
theorem MarkQ.lt {w : World} {b s : Nat} {k : Int} {i : Nat} (h : MarkQ w b s k i) : b < w.heap.size := by
  obtain ⟨vs, h1, _⟩ := h
  exact (Array.getElem?_eq_some_iff.1 h1).1

set_option maxHeartbeats 400000 in
theorem mark2_nil (sl : Option Addr) (cap : Nat) (k : Int) (w : World) :
    Calls Try.prog 43 #[.slice sl 0 cap, .int .i64 k] w fun e w' => e = .returned (.int .i64 k) ∧ w' = w := by
  go_enter Try.func43, Try.ntmps43
  go_wp2
  refine wp_loop_rounds 1 ?_
  rw [rounds_succ]
  go_wp2
  go_ret
  exact ⟨rfl, rfl⟩
set_option maxHeartbeats 400000 in
theorem held2_nil (sl : Option Addr) (cap : Nat) (k : Int) (w : World) :
    Calls Try.prog 44 #[.slice sl 0 cap, .int .i64 k] w fun e w' => e = .returned (.int .i64 k) ∧ w' = w := by
  go_enter Try.func44, Try.ntmps44
  go_wp2
  refine wp_loop_rounds 1 ?_
  rw [rounds_succ]
  go_wp2
  go_ret
  exact ⟨rfl, rfl⟩

set_option maxRecDepth 100000 in
set_option maxHeartbeats 1000000 in
theorem mark2_some (b m s cap : Nat) (k : Int) (hn : m ≤ 1048576) (hs : m * 2 ≤ s) (k0 : 0 ≤ k) (k1 : k ≤ 1000000000) (w : World) (h : MarkQ w b s k 0) :
    Calls Try.prog 43 #[.slice (some ⟨b, 0, none⟩) m cap, .int .i64 k] w fun e w' => e = .returned (.int .i64 (k + 2 * (m : Int))) ∧ MarkQ w' b s k (m * 2) ∧ Only b w w' := by
  have H := Lib.hid h
  clear h
  go_enter Try.func43, Try.ntmps43
  go_wp2
  go_loopw [1, 5] (fun v i wr => ∃ j : Nat, i = .int .i64 j ∧ v = .int .i64 (k + 2 * (j : Int)) ∧ j ≤ m ∧ Hid (MarkQ wr b s k (j * 2)) ∧ Hid (Only b w wr)) (fun _ i _ => m - (intOf i).toNat)
  case atStart => exact ⟨0, rfl, by simp, Nat.zero_le _, H, Only.refl _ _⟩
  case round =>
    obtain ⟨j, rfl, rfl, hj, H1, H2⟩ := hrel
    have hj0 : (0 : Int) ≤ (j : Int) := by omega
    by_cases h1 : j < m
    · have h1' : (j : Int) < (m : Int) := by omega
      obtain ⟨⟨v0, c0⟩, f0⟩ := H1.out.cell (j * 2) (by omega)
      obtain ⟨⟨v1, c1⟩, f1⟩ := H1.out.cell (j * 2 + 1) (by omega)
      have S2 : Hid (MarkQ ((wr.setCell ⟨b, j * 2, none⟩ (.int .i64 (k + 2 * (j : Int)))).setCell ⟨b, j * 2 + 1, none⟩ (.int .i64 (k + 2 * (j : Int) + 1))) b s k ((j + 1) * 2)) := by
        have := (H1.out.step (by omega)).step (by omega)
        rw [show ((j * 2 : Nat) : Int) = 2 * (j : Int) by omega, show (k + ((j * 2 + 1 : Nat) : Int)) = k + 2 * (j : Int) + 1 by omega, show j * 2 + 1 + 1 = (j + 1) * 2 by omega] at this
        exact this
      have B2 := Lib.hid ((H2.out.setCell (j * 2) (.int .i64 (k + 2 * (j : Int)))).setCell (j * 2 + 1) (.int .i64 (k + 2 * (j : Int) + 1)))
      clear H1 H2
      go_wp2
      go_roundw
      case rel => exact ⟨j + 1, by go_num, by congr 1; push_cast; omega, by omega, S2, B2⟩
      case measure => simp [intOf]; omega
    · have h1' : ¬ (j : Int) < (m : Int) := by omega
      have P := Lib.hid (show (k + 2 * (j : Int)) = k + 2 * (m : Int) ∧ j * 2 = m * 2 by omega)
      have Q : Hid (MarkQ wr b s k (m * 2)) := by have := H1.out; rw [P.out.2] at this; exact this
      go_wp2
      go_ret
      exact ⟨by rw [← P.out.1]; rfl, Q.out, H2.out⟩

set_option maxRecDepth 100000 in
set_option maxHeartbeats 1000000 in
theorem held2_some (b m s cap : Nat) (k : Int) (hn : m ≤ 1048576) (k0 : 0 ≤ k) (k1 : k ≤ 1000000000) (w : World) (h : MarkQ w b s k (m * 2)) :
    Calls Try.prog 44 #[.slice (some ⟨b, 0, none⟩) m cap, .int .i64 k] w fun e w' => e = .returned (.int .i64 (k + 2 * (m : Int))) ∧ w' = w := by
  have H := Lib.hid h
  clear h
  go_enter Try.func44, Try.ntmps44
  go_wp2
  go_loopw [1, 5] (fun v i wr => ∃ j : Nat, i = .int .i64 j ∧ v = .int .i64 (k + 2 * (j : Int)) ∧ j ≤ m ∧ wr = w) (fun _ i _ => m - (intOf i).toNat)
  case atStart => exact ⟨0, rfl, by simp, Nat.zero_le _, rfl⟩
  case round =>
    obtain ⟨j, rfl, rfl, hj, rfl⟩ := hrel
    have hj0 : (0 : Int) ≤ (j : Int) := by omega
    by_cases h1 : j < m
    · have h1' : (j : Int) < (m : Int) := by omega
      have c0 := H.out.at (j * 2) (by omega)
      have c1 := H.out.at (j * 2 + 1) (by omega)
      have bl := H.out.lt
      rw [show (k + ((j * 2 : Nat) : Int)) = k + 2 * (j : Int) by omega] at c0
      rw [show (k + ((j * 2 + 1 : Nat) : Int)) = k + 2 * (j : Int) + 1 by omega] at c1
      have e0 : (k + 2 * (j : Int) != k + 2 * (j : Int)) = false := by simp
      have e1 : (k + 2 * (j : Int) + 1 != k + 2 * (j : Int) + 1) = false := by simp
      go_wp2
      go_roundw
      case rel => exact ⟨j + 1, by go_num, by congr 1; push_cast; omega, by omega, trivial⟩
      case measure => simp [intOf]; omega
    · have h1' : ¬ (j : Int) < (m : Int) := by omega
      have P := Lib.hid (show (k + 2 * (j : Int)) = k + 2 * (m : Int) by omega)
      go_wp2
      go_ret
      exact ⟨by rw [← P.out]; rfl, rfl⟩

theorem mark2_row (B : Nat) (v : Value) (n : Nat) (xs : List Value) (k : Int) (hn : n ≤ 1048576) (k0 : 0 ≤ k) (k1 : k ≤ 1000000000) (w : World) (h : w.ownsRow B 34 2 v n xs) :
    Calls Try.prog 43 #[v, .int .i64 k] w fun e w' => e = .returned (.int .i64 (k + 2 * (n : Int))) ∧ w'.ownsRow B 34 2 v n (valsZ (marks k (n * 2))) ∧ w.grownBy w' v.ownBlock := by
  have hl : (valsZ (marks k (n * 2))).length = n * 2 := by simp [valsZ, marks_len]
  rcases h.2 with ⟨rfl, h0⟩ | ⟨g, cap, cur, rfl, hb, hg, hcap, hmx, hcur, hx⟩
  · subst h0
    refine (mark2_nil _ _ _ _).mono ?_
    rintro e w' ⟨rfl, rfl⟩
    exact ⟨by simp, ⟨by simp [valsZ, marks], .inl ⟨rfl, rfl⟩⟩, ⟨rfl, rfl, rfl, Nat.le_refl _, fun _ _ _ => rfl⟩⟩
  · refine (mark2_some g n cur.size cap k hn (by rw [hcur]; omega) k0 k1 w ⟨cur, hg, rfl, fun j hj => absurd hj (Nat.not_lt_zero _)⟩).mono ?_
    rintro e w' ⟨rfl, ⟨vs, h1, h2, h3⟩, ho⟩
    refine ⟨rfl, ⟨hl, .inr ⟨g, cap, vs, rfl, hb, h1, hcap, hmx, by rw [h2, hcur], ?_⟩⟩, ho.grownBy⟩
    apply List.ext_getElem?
    intro i
    by_cases hi : i < n * 2
    · rw [List.getElem?_take_of_lt (by omega)]
      simp only [valsZ, List.getElem?_map, marks_get k _ i hi]
      have := h3 i hi
      simpa using this
    · rw [List.getElem?_eq_none (by simp; omega), List.getElem?_eq_none (by simp [valsZ, marks_len]; omega)]
theorem held2_row (B : Nat) (v : Value) (n : Nat) (k : Int) (hn : n ≤ 1048576) (k0 : 0 ≤ k) (k1 : k ≤ 1000000000) (w : World) (h : w.ownsRow B 34 2 v n (valsZ (marks k (n * 2)))) :
    Calls Try.prog 44 #[v, .int .i64 k] w fun e w' => e = .returned (.int .i64 (k + 2 * (n : Int))) ∧ w' = w := by
  rcases h.2 with ⟨rfl, h0⟩ | ⟨g, cap, cur, rfl, hb, hg, hcap, hmx, hcur, hx⟩
  · subst h0
    refine (held2_nil _ _ _ _).mono ?_
    rintro e w' ⟨rfl, rfl⟩
    exact ⟨by simp, rfl⟩
  · refine held2_some g n cur.size cap k hn k0 k1 w ⟨cur, hg, rfl, fun j hj => ?_⟩
    have := congrArg (fun l => l[j]?) hx
    simp only [valsZ, List.getElem?_map, marks_get k _ j hj] at this
    rw [List.getElem?_take_of_lt (by omega)] at this
    simpa using this

/-- The first k are the same. -/
def SameTo (zs ys : List Int) (k : Nat) : Prop := ∀ i, i < k → zs.getD i 0 = ys.getD i 0
theorem SameTo.step {zs ys : List Int} {k : Nat} (h : SameTo zs ys k) (g : zs.getD k 0 = ys.getD k 0) : SameTo zs ys (k + 1) := fun i hi => by
  by_cases e : i = k
  · subst e; exact g
  · exact h i (by omega)
theorem SameTo.all {zs ys : List Int} {k : Nat} (h : SameTo zs ys k) (hl : zs.length = ys.length) (hk : zs.length ≤ k) : zs = ys := by
  apply List.ext_getElem hl
  intro i h1 h2
  have := h i (by omega)
  simpa [h1, h2] using this

set_option maxRecDepth 100000 in
set_option maxHeartbeats 1000000 in
/-- slices.Equal of numbers. -/
theorem eqz_any (sl : Option Addr) (cap : Nat) (zs : List Int) (sl2 : Option Addr) (cap2 : Nat) (ys : List Int) (w : World) (hn : zs.length ≤ 1048576) (hm : ys.length ≤ 1048576) (hz : Ints w sl zs) (hy : Ints w sl2 ys) :
    Calls Try.prog 94 #[.slice sl zs.length cap, .slice sl2 ys.length cap2] w fun e w' => e = .returned (.bool (B (zs = ys))) ∧ Below w.heap.size w w' := by
  by_cases hl : zs.length = ys.length
  · have YY := Lib.hid (show ∀ k, zs.length ≤ k → SameTo zs ys k → B (zs = ys) = true from fun k hk h => B_yes (h.all hl hk))
    have NN := Lib.hid (show ∀ k, zs.getD k 0 ≠ ys.getD k 0 → B (zs = ys) = false from fun k h => B_no (fun e => h (by rw [e])))
    have HZ := Lib.hid hz
    have HY := Lib.hid hy
    rw [← hl]
    have HLL := Lib.hid hl
    clear hz hy hm hl
    generalize hN : zs.length = n at *
    have HN := Lib.hid hN
    clear hN
    go_enter Try.func94, Try.ntmps94
    go_wp2
    go_loopw [13] (fun i wr => ∃ k : Nat, i = .int .i64 k ∧ k ≤ n ∧ Hid (SameTo zs ys k) ∧ Hid (Below w.heap.size w wr)) (fun i _ => n - (intOf i).toNat)
    case atStart => exact ⟨0, rfl, Nat.zero_le _, fun i h => absurd h (Nat.not_lt_zero _), Below.refl _ _⟩
    case round =>
      obtain ⟨k, rfl, hk, H1, H2⟩ := hrel
      have hk0 : (0 : Int) ≤ (k : Int) := by omega
      by_cases h1 : k < n
      · have h1' : (k : Int) < (n : Int) := by omega
        have hlt : k < zs.length := by rw [HN.out]; exact h1
        have hlt2 : k < ys.length := by rw [← HLL.out]; exact h1
        obtain ⟨c, o, rfl, ZI⟩ : ∃ c o, sl = some ⟨c, o, none⟩ ∧ IntsAt w c o zs := by
          rcases HZ.out with e | h
          · rw [e] at hlt; simp at hlt
          · exact h
        obtain ⟨c2, o2, rfl, YI⟩ : ∃ c o, sl2 = some ⟨c, o, none⟩ ∧ IntsAt w c o ys := by
          rcases HY.out with e | h
          · rw [e] at hlt2; simp at hlt2
          · exact h
        have hc := (H2.out.cell (p := ⟨c, o + k, none⟩) ZI.1).trans (ZI.2 k hlt)
        have hd := (H2.out.cell (p := ⟨c2, o2 + k, none⟩) YI.1).trans (YI.2 k hlt2)
        by_cases e : zs.getD k 0 = ys.getD k 0
        · have e' : (zs.getD k 0 != ys.getD k 0) = false := by rw [e]; simp
          have HS := Lib.hid (H1.out.step e)
          clear hlt hlt2 ZI YI e H1
          generalize zs.getD k 0 = z at *
          generalize ys.getD k 0 = y at *
          go_wp2
          go_quiet (fail)
          go_wp2
          go_roundw
          case rel => exact ⟨k + 1, by go_num, by omega, HS, below_drewN H2.out _⟩
          case measure => simp [intOf]; omega
        · have e' : (zs.getD k 0 != ys.getD k 0) = true := by simpa using e
          have HF := Lib.hid (NN.out k e)
          clear hlt hlt2 ZI YI e H1
          generalize zs.getD k 0 = z at *
          generalize ys.getD k 0 = y at *
          go_wp2
          go_quiet (fail)
          go_wp2
          go_ret
          exact ⟨by rw [HF.out]; rfl, below_drewN H2.out _⟩
      · have h1' : ¬ (k : Int) < (n : Int) := by omega
        have HE := Lib.hid (YY.out k (by omega) H1.out)
        go_wp2
        go_ret
        exact ⟨by rw [HE.out]; rfl, H2.out⟩
  · have hl' : ((zs.length : Int) != (ys.length : Int)) = true := by simpa using (show ¬ (zs.length : Int) = (ys.length : Int) by omega)
    rw [B_no (fun e => hl (by rw [e]))]
    clear hz hy hl
    generalize zs.length = n at *
    generalize ys.length = m at *
    go_enter Try.func94, Try.ntmps94
    go_wp2
    go_ret
    exact ⟨rfl, Below.refl _ _⟩

end Go.Proofs.Ytdmfljejlhlbnaa
namespace Go.Proofs.Ytdmfljejlhlbnaa
open Go.RowKit
set_option linter.unusedVariables false

/-- The places that the trues stand for. -/
def poP (qs : List LPl) (ts : List Int) : List LPl := ts.map fun v => qs.getD (v - 1).toNat (0, 0)
def PoOK (rs : List LSt) (ps : List LPr) (top : Int) (ids ts : List Int) : Prop := ts.length ≤ 400 ∧ IdsR rs ps ids ∧ InRise 1 (plF rs top ids).length ts ∧ pidsL (poP (plF rs top ids) ts) = ids
/-- What PlanOf answers. -/
noncomputable def poA (rs : List LSt) (ps : List LPr) (top : Int) (ids ts : List Int) : List LPl := if B (PoOK rs ps top ids ts) = true then poP (plF rs top ids) ts else []
theorem poA_no {rs : List LSt} {ps : List LPr} {top : Int} {ids ts : List Int} (h : ¬ PoOK rs ps top ids ts) : poA rs ps top ids ts = [] := by unfold poA; rw [B_no h]; rfl
theorem poA_yes {rs : List LSt} {ps : List LPr} {top : Int} {ids ts : List Int} (h : PoOK rs ps top ids ts) : poA rs ps top ids ts = poP (plF rs top ids) ts := by unfold poA; rw [B_yes h]; rfl
theorem poP_step (qs : List LPl) (ts : List Int) (k : Nat) (h : k < ts.length) : poP qs (ts.take (k + 1)) = poP qs (ts.take k) ++ [qs.getD (ts.getD k 0 - 1).toNat (0, 0)] := by
  unfold poP
  rw [List.take_succ_eq_append_getElem h, List.map_append]
  simp [h]
theorem pls_of {w : World} {sl : Option Addr} {pl : List LPl} {B : Nat} (h : pl = [] ∨ ∃ c, sl = some ⟨c, 0, none⟩ ∧ PlAt w c 0 pl ∧ B ≤ c) : Pls w sl pl := by
  rcases h with h | ⟨c, e, p, _⟩
  · exact .inl h
  · exact .inr ⟨c, 0, e, p⟩

set_option maxRecDepth 100000 in
set_option maxHeartbeats 4000000 in
/-- impl.PlanOf. -/
theorem ipo_any (sl : Option Addr) (cap : Nat) (sl2 : Option Addr) (cap2 : Nat) (sl3 : Option Addr) (cap3 : Nat) (sl4 : Option Addr) (cap4 : Nat) (rs : List LSt) (ps : List LPr) (ids ts : List Int) (top : Int) (w : World) (hn : rs.length ≤ 1048576) (hl : ids.length ≤ maxLen) (hm : ts.length ≤ maxLen) (hz : Sts w sl rs) (hp : Prs w sl2 ps) (hw : ∀ p ∈ ps, WfP p) (hi : Ints w sl3 ids) (ht : Ints w sl4 ts) :
    Calls Try.prog 32 #[TV sl rs.length cap sl2 ps.length cap2, .int .i64 top, .slice sl3 ids.length cap3, .slice sl4 ts.length cap4] w fun e w' => ∃ v, e = .returned v ∧ w'.ownsRow w.heap.size 34 2 v (poA rs ps top ids ts).length (enCells (poA rs ps top ids ts)) ∧ Below w.heap.size w w' := by
  obtain ⟨i3, hi3, hd0, hd1, hd2⟩ := info_parts info34
  have HT := Lib.hid (TabAt.new w sl rs.length cap sl2 ps.length cap2)
  have B0 := Lib.hid (bA0 w (.cells #[.slice sl rs.length cap, .slice sl2 ps.length cap2] 26))
  have E1 : Hid (∀ W, Below w.heap.size w W → Calls Try.prog 77 #[TV sl rs.length cap sl2 ps.length cap2, .slice sl3 ids.length cap3] W fun e w' => e = .returned (.bool (B (IdsR rs ps ids))) ∧ Below W.heap.size W w') := fun W hW => iir_any sl cap sl2 cap2 sl3 cap3 rs ps ids W hn hl (hz.below hW) (hp.below hW) hw (hi.below hW)
  have E2 : Hid (∀ q : Int, ∀ W, Below w.heap.size w W → Calls Try.prog 92 #[.slice sl4 ts.length cap4, .int .i64 1, .int .i64 q] W fun e w' => e = .returned (.bool (B (InRise 1 q ts))) ∧ Below W.heap.size W w') := fun q W hW => rw_any 1 q sl4 cap4 ts W hm (ht.below hW)
  unfold maxLen at hl hm
  by_cases h4 : 400 < ts.length
  · have h4' : (400 : Int) < (ts.length : Int) := by omega
    rw [poA_no (fun g => by have := g.1; omega)]
    clear hz hp hw hi ht E1 E2 HT
    generalize rs.length = rn at *
    generalize ps.length = pn at *
    generalize ids.length = n at *
    generalize ts.length = m at *
    go_enter Try.func32, Try.ntmps32
    go_wp2
    go_ret
    exact ⟨_, rfl, ⟨rfl, .inl ⟨rfl, rfl⟩⟩, B0.out⟩
  have h4' : ¬ (400 : Int) < (ts.length : Int) := by omega
  cases hb : B (IdsR rs ps ids) with
  | false =>
    rw [poA_no (fun g => B_false hb g.2.1)]
    rw [hb] at E1
    clear hb hz hp hw hi ht E2 HT
    generalize rs.length = rn at *
    generalize ps.length = pn at *
    generalize ids.length = n at *
    generalize ts.length = m at *
    go_enter Try.func32, Try.ntmps32
    go_wp2_with fail
    refine (E1.out _ B0.out).mono ?_
    rintro e w1 ⟨rfl, b1⟩
    have D1 := Lib.hid (bT B0.out b1)
    clear b1 E1
    go_wp2
    go_ret
    exact ⟨_, rfl, ⟨rfl, .inl ⟨rfl, rfl⟩⟩, D1.out⟩
  | true =>
    rw [hb] at E1
    have IR := B_true hb
    have hpl : (plF rs top ids).length ≤ 38400 := by
      have := plF_le top ids IR.2.1
      have := IR.1
      omega
    have E3 : Hid (∀ W, Below w.heap.size w W → Calls Try.prog 82 #[TV sl rs.length cap sl2 ps.length cap2, .int .i64 top, .slice sl3 ids.length cap3] W fun e w' => ∃ b rows, e = .returned (.slice (some ⟨b, 0, none⟩) ids.length ids.length) ∧ rows.map (fun r => r.2) = ids.map (chF rs top) ∧ Rws w' (some ⟨b, 0, none⟩) rows ∧ Below W.heap.size W w') := fun W hW => ch_any sl cap sl2 cap2 sl3 cap3 rs ps top ids W IR.1 (hz.below hW) IR.2.1 (hi.below hW)
    have E4 : Hid (∀ b rows W, rows.map (fun r => r.2) = ids.map (chF rs top) → Rws W (some ⟨b, 0, none⟩) rows → Calls Try.prog 81 #[.slice (some ⟨b, 0, none⟩) ids.length ids.length] W fun e w' => ∃ s c, e = .returned (.slice s (plF rs top ids).length c) ∧ (plF rs top ids = [] ∨ ∃ c, s = some ⟨c, 0, none⟩ ∧ PlAt w' c 0 (plF rs top ids) ∧ W.heap.size ≤ c) ∧ Below W.heap.size W w') := fun b rows W er r => by
      have hl' : rows.length = ids.length := by have := congrArg List.length er; simpa using this
      have := cat_any (some ⟨b, 0, none⟩) ids.length rows W (by rw [hl']; have := IR.1; omega) (by rw [flatR_map er]; omega) r
      rw [hl', flatR_map er] at this
      refine this.mono ?_
      rintro e w' ⟨v, rfl, o, bl⟩
      obtain ⟨s, c, rfl, h⟩ := own_pls o
      exact ⟨s, c, rfl, h, bl⟩
    have h400 := IR.1
    have E5 : Hid (∀ zs s c W, Below w.heap.size w W → zs.length ≤ 400 → Ints W s zs → Calls Try.prog 94 #[.slice s zs.length c, .slice sl3 ids.length cap3] W fun e w' => e = .returned (.bool (B (zs = ids))) ∧ Below W.heap.size W w') := fun zs s c W hW h i => eqz_any s c zs sl3 cap3 ids W (by omega) (by omega) i (hi.below hW)
    cases hc : B (InRise 1 (plF rs top ids).length ts) with
    | false =>
      rw [poA_no (fun g => B_false hc g.2.2.1)]
      have E2' : Hid (∀ W, Below w.heap.size w W → Calls Try.prog 92 #[.slice sl4 ts.length cap4, .int .i64 1, .int .i64 ((plF rs top ids).length : Int)] W fun e w' => e = .returned (.bool false) ∧ Below W.heap.size W w') := fun W hW => by
        have := E2.out ((plF rs top ids).length : Int) W hW
        rwa [hc] at this
      clear hb hc hz hp hw hi ht IR E2 E5
      generalize plF rs top ids = qs at *
      generalize rs.length = rn at *
      generalize ps.length = pn at *
      generalize ids.length = n at *
      generalize ts.length = m at *
      generalize qs.length = q at *
      go_enter Try.func32, Try.ntmps32
      go_wp2_with fail
      refine (E1.out _ B0.out).mono ?_
      rintro e w1 ⟨rfl, b1⟩
      have D1 := Lib.hid (bT B0.out b1)
      have TA := HT.out.below b1
      obtain ⟨t0, t1⟩ := TA.cells
      have tl := TA.lt
      clear b1 E1 TA
      go_wp2_with fail
      refine (E3.out _ D1.out).mono ?_
      rintro e w2 ⟨b4, rows, rfl, er, r4, bl4⟩
      have D2 := Lib.hid (bT D1.out bl4)
      have T4 := Lib.hid (E4.out b4 rows _ er r4)
      clear bl4 er r4 E3 t0 t1 tl
      go_wp2_with fail
      refine T4.out.mono ?_
      rintro e w5 ⟨s5, c5, rfl, -, b5⟩
      have D5 := Lib.hid (bT D2.out b5)
      clear b5 T4
      go_wp2_with fail
      refine (E2'.out _ D5.out).mono ?_
      rintro e w6 ⟨rfl, b6⟩
      have D6 := Lib.hid (bT D5.out b6)
      clear b6 E2'
      go_wp2
      go_ret
      exact ⟨_, rfl, ⟨rfl, .inl ⟨rfl, rfl⟩⟩, D6.out⟩
    | true =>
      have IT := Lib.hid (B_true hc)
      have E2' : Hid (∀ W, Below w.heap.size w W → Calls Try.prog 92 #[.slice sl4 ts.length cap4, .int .i64 1, .int .i64 ((plF rs top ids).length : Int)] W fun e w' => e = .returned (.bool true) ∧ Below W.heap.size W w') := fun W hW => by
        have := E2.out ((plF rs top ids).length : Int) W hW
        rwa [hc] at this
      have YY := Lib.hid (show pidsL (poP (plF rs top ids) ts) = ids → poA rs ps top ids ts = poP (plF rs top ids) ts from fun e => poA_yes ⟨by omega, IR, IT.out, e⟩)
      have NN := Lib.hid (show ¬ pidsL (poP (plF rs top ids) ts) = ids → poA rs ps top ids ts = [] from fun e => poA_no (fun g => e g.2.2.2))
      have HTS := Lib.hid ht
      clear hb hc hz hp hw hi ht IR E2
      generalize poA rs ps top ids ts = ans at *
      generalize plF rs top ids = qs at *
      generalize rs.length = rn at *
      generalize ps.length = pn at *
      generalize ids.length = n at *
      generalize hM : ts.length = m at *
      have HM := Lib.hid hM
      clear hM
      generalize hQ : qs.length = q at *
      have HQ := Lib.hid hQ
      clear hQ
      go_enter Try.func32, Try.ntmps32
      go_wp2_with fail
      refine (E1.out _ B0.out).mono ?_
      rintro e w1 ⟨rfl, b1⟩
      have D1 := Lib.hid (bT B0.out b1)
      have TA := HT.out.below b1
      obtain ⟨t0, t1⟩ := TA.cells
      have tl := TA.lt
      clear b1 E1 TA
      go_wp2_with fail
      refine (E3.out _ D1.out).mono ?_
      rintro e w2 ⟨b4, rows, rfl, er, r4, bl4⟩
      have D2 := Lib.hid (bT D1.out bl4)
      have T4 := Lib.hid (E4.out b4 rows _ er r4)
      clear bl4 er r4 E3 t0 t1 tl
      go_wp2_with fail
      refine T4.out.mono ?_
      rintro e w5 ⟨s5, c5, rfl, z5, b5⟩
      have D5 := Lib.hid (bT D2.out b5)
      have Z5 := Lib.hid (pls_of z5)
      clear b5 T4 z5
      go_wp2_with fail
      refine (E2'.out _ D5.out).mono ?_
      rintro e w6 ⟨rfl, b6⟩
      have D6 := Lib.hid (bT D5.out b6)
      have Z6 := Lib.hid (Z5.out.below b6)
      clear b6 E2' Z5 D5 D2 D1 E4
      go_wp2
      go_loopw [10, 34] (fun v i wr => ∃ (k : Nat) (cu : List LPl), i = .int .i64 k ∧ k ≤ m ∧ cu.length ≤ k ∧ Hid (cu = poP qs (ts.take k)) ∧ Hid (wr.ownsRow w6.heap.size 34 2 v cu.length (enCells cu)) ∧ Hid (Below w6.heap.size w6 wr)) (fun _ i _ => m - (intOf i).toNat)
      case atStart => exact ⟨0, [], rfl, Nat.zero_le _, Nat.zero_le _, rfl, ⟨rfl, .inl ⟨rfl, rfl⟩⟩, Below.refl _ _⟩
      case round =>
        obtain ⟨k, cu, rfl, hk, hcl, HC, OR, HB⟩ := hrel
        have hk0 : (0 : Int) ≤ (k : Int) := by omega
        have DW := Lib.hid (bT D6.out HB.out)
        by_cases g1 : k < m
        · have g1' : (k : Int) < (m : Int) := by omega
          have hlt : k < ts.length := by rw [HM.out]; exact g1
          obtain ⟨g, o, rfl, TI⟩ : ∃ g o, sl4 = some ⟨g, o, none⟩ ∧ IntsAt w g o ts := by
            rcases HTS.out with e | h
            · rw [e] at hlt; simp at hlt
            · exact h
          have hc := (DW.out.cell (p := ⟨g, o + k, none⟩) TI.1).trans (TI.2 k hlt)
          have hzb := (IT.out k hlt).1
          have PS := Lib.hid (poP_step qs ts k hlt)
          clear hlt TI
          generalize ts.getD k 0 = z at *
          obtain ⟨z1, z2⟩ := hzb
          obtain ⟨j, rfl⟩ : ∃ j : Nat, z = (j : Int) + 1 := ⟨(z - 1).toNat, by omega⟩
          have hjq : j < q := by omega
          have hjn : ((j : Int) + 1 - 1).toNat = j := by omega
          have hlt2 : j < qs.length := by rw [HQ.out]; exact hjq
          obtain ⟨c, o2, rfl, PA⟩ : ∃ c o, s5 = some ⟨c, o, none⟩ ∧ PlAt w6 c o qs := by
            rcases Z6.out with e | h
            · rw [e] at hlt2; simp at hlt2
            · exact h
          have PB := PA.below HB.out
          obtain ⟨d0, d1⟩ := PB.cell j hlt2
          have cl := PB.lt
          obtain ⟨a, b, hpj⟩ : ∃ a b, qs[j] = (a, b) := ⟨_, _, rfl⟩
          rw [hpj] at d0 d1
          dsimp only at d0 d1
          have CS := Lib.hid (show cu ++ [(a, b)] = poP qs (ts.take (k + 1)) by
            rw [PS.out, ← HC.out, hjn, ← hpj]
            simp [hlt2])
          have EV := Lib.hid (show enCells cu ++ [.int .i64 a, .int .i64 b] = enCells (cu ++ [(a, b)]) from (enCells_add cu (a, b)).symm)
          have hjz : (0 : Int) ≤ (j : Int) := by omega
          have hjz2 : (j : Int) < (q : Int) := by omega
          have hsw := HB.out.size
          clear hlt2 PA PB hpj PS HC hjn z1 z2
          go_wp2_with (first | (at_builtin; refine wpList_append_lies _ rfl (.tmp 38) (.tmp 44) 27 rfl w6.heap.size 34 i3 (.agg #[.int .i64 0, .int .i64 0]) 2 16 Try.underlying27 hi3 hd0 hd1 hd2 rfl (by decide) _ _ _ rfl (OR.out.alloc _) ⟨wr.heap.size, 0, none⟩ 1 1 [.int .i64 a, .int .i64 b] rfl rfl (cell_two_new _ _ _ _) (by intro u hu; simp at hu; rcases hu with rfl | rfl <;> rfl) (by decide) (by unfold maxLen; omega) (by omega) (by simp; omega) (wr.heap.size + 1) (by simp) ?_))
          intro g9 cap9 w9 own9 grow9 hg9 hlt9
          have B9 := Lib.hid ((bA HB.out (.cells #[.int .i64 a, .int .i64 b] 34)).grown grow9 (by simp; omega) (fun j hj => (OR.out.lt j hj).1))
          rw [EV.out] at own9
          have N9 : Hid (w9.ownsRow w6.heap.size 34 2 (.slice (some ⟨g9, 0, none⟩) (cu.length + 1) cap9) (cu ++ [(a, b)]).length (enCells (cu ++ [(a, b)]))) := by
            rw [List.length_append]; exact own9
          have LL := Lib.hid (show (cu ++ [(a, b)]).length ≤ k + 1 by rw [List.length_append]; simp; omega)
          clear own9 grow9 hg9 hlt9 OR HB EV
          go_wp2
          go_roundw
          case rel => exact ⟨k + 1, cu ++ [(a, b)], by go_num, by omega, LL.out, CS, N9, B9⟩
          case measure => simp [intOf]; omega
        · have g1' : ¬ (k : Int) < (m : Int) := by omega
          have CE := Lib.hid (show cu = poP qs ts by rw [HC.out, List.take_of_length_le (by rw [HM.out]; omega)])
          have OF := Lib.hid (own_mono OR.out D6.out.size)
          obtain ⟨sv, cv, rfl, pv⟩ := own_pls OR.out
          have E6 := Lib.hid (ipi_any sv cv cu wr (by unfold maxLen; omega) (pls_of pv))
          rw [pidsA_eq (show cu.length ≤ 400 by omega)] at E6
          have L6 := Lib.hid (show (pidsL cu).length ≤ 400 by rw [pidsL_len]; omega)
          have YZ := Lib.hid (show pidsL cu = ids → ans = cu from fun e => by rw [CE.out]; rw [CE.out] at e; exact YY.out e)
          have NZ := Lib.hid (show ¬ pidsL cu = ids → ans = [] from fun e => by rw [CE.out] at e; exact NN.out e)
          clear HC OR CE YY NN pv
          go_wp2_with fail
          refine E6.out.mono ?_
          rintro e w7 ⟨v7, rfl, o7, b7⟩
          obtain ⟨s7, c7, rfl, i7⟩ := own_ints o7
          have D7 := Lib.hid (bT DW.out b7)
          have OF7 := Lib.hid (own_below OF.out b7)
          have T8 := Lib.hid (E5.out _ s7 c7 w7 D7.out L6.out i7)
          clear o7 b7 i7 E6 OF
          cases hbb : B (pidsL cu = ids) with
          | true =>
            rw [hbb] at T8
            have AN := Lib.hid (YZ.out (B_true hbb))
            clear hbb YZ NZ
            generalize (pidsL cu).length = idn at *
            go_wp2_with fail
            refine T8.out.mono ?_
            rintro e w8 ⟨rfl, b8⟩
            have D8 := Lib.hid (bT D7.out b8)
            have OF8 := Lib.hid (own_below OF7.out b8)
            rw [← AN.out] at OF8
            clear b8 T8
            go_wp2
            go_ret
            exact ⟨_, rfl, by rw [AN.out] at OF8 ⊢; exact OF8.out, D8.out⟩
          | false =>
            rw [hbb] at T8
            have AN := Lib.hid (NZ.out (B_false hbb))
            clear hbb YZ NZ
            generalize (pidsL cu).length = idn at *
            go_wp2_with fail
            refine T8.out.mono ?_
            rintro e w8 ⟨rfl, b8⟩
            have D8 := Lib.hid (bT D7.out b8)
            clear b8 T8
            go_wp2
            go_ret
            exact ⟨_, rfl, by rw [AN.out]; exact ⟨rfl, .inl ⟨rfl, rfl⟩⟩, D8.out⟩

end Go.Proofs.Ytdmfljejlhlbnaa
namespace Go.Proofs.Ytdmfljejlhlbnaa
open Go.RowKit
set_option linter.unusedVariables false

theorem pidsL_app (a b : List LPl) : pidsL (a ++ b) = pidsL a ++ pidsL b := by simp [pidsL]
theorem poP_get (qs : List LPl) (ts : List Int) (k : Nat) (h : k < ts.length) : (pidsL (poP qs ts)).getD k 0 = (qs.getD (ts.getD k 0 - 1).toNat (0, 0)).1 := by
  simp [pidsL, poP, h]

set_option maxRecDepth 100000 in
set_option maxHeartbeats 4000000 in
/-- spec.PlanOf. -/
theorem spo_any (sl : Option Addr) (cap : Nat) (sl2 : Option Addr) (cap2 : Nat) (sl3 : Option Addr) (cap3 : Nat) (sl4 : Option Addr) (cap4 : Nat) (rs : List LSt) (ps : List LPr) (ids ts : List Int) (top : Int) (w : World) (hn : rs.length ≤ 1048576) (hl : ids.length ≤ 1048576) (hm : ts.length ≤ 1048576) (hz : Sts w sl rs) (hp : Prs w sl2 ps) (hi : Ints w sl3 ids) (ht : Ints w sl4 ts) :
    Calls Try.prog 62 #[TV sl rs.length cap sl2 ps.length cap2, .int .i64 top, .slice sl3 ids.length cap3, .slice sl4 ts.length cap4] w fun e w' => ∃ v, e = .returned v ∧ w'.ownsRow w.heap.size 34 2 v (poA rs ps top ids ts).length (enCells (poA rs ps top ids ts)) ∧ Below w.heap.size w w' := by
  obtain ⟨i3, hi3, hd0, hd1, hd2⟩ := info_parts info34
  have HT := Lib.hid (TabAt.new w sl rs.length cap sl2 ps.length cap2)
  have B0 := Lib.hid (bA (bA0 w (.cells #[.slice sl rs.length cap, .slice sl2 ps.length cap2] 26)) (.cells #[] 34))
  have X0 := Lib.hid (HT.out.below (bA0 (w.alloc (.cells #[.slice sl rs.length cap, .slice sl2 ps.length cap2] 26)) (.cells #[] 34)))
  have O0 := Lib.hid (own_e34 (w.alloc (.cells #[.slice sl rs.length cap, .slice sl2 ps.length cap2] 26)))
  rw [show (w.alloc (.cells #[.slice sl rs.length cap, .slice sl2 ps.length cap2] 26)).heap.size = w.heap.size + 1 by simp] at O0
  have E1 : Hid (∀ W, Below w.heap.size w W → Calls Try.prog 34 #[TV sl rs.length cap sl2 ps.length cap2, .slice sl3 ids.length cap3] W fun e w' => e = .returned (.bool (B (IdsR rs ps ids))) ∧ Below W.heap.size W w') := fun W hW => sir_any sl cap sl2 cap2 sl3 cap3 rs ps ids W hn hl (hz.below hW) (hp.below hW) (hi.below hW)
  have E2 : Hid (∀ W, Below w.heap.size w W → Calls Try.prog 99 #[.slice sl4 ts.length cap4] W fun e w' => e = .returned (.bool (B (RiseTo ts ts.length))) ∧ Below W.heap.size W w') := fun W hW => ri_any sl4 cap4 ts W hm (ht.below hW)
  have E3 : Hid (∀ q : Int, ∀ W, Below w.heap.size w W → Calls Try.prog 120 #[.slice sl4 ts.length cap4, .int .i64 1, .int .i64 q] W fun e w' => e = .returned (.bool (ts.all (inB 1 q))) ∧ w' = W) := fun q W hW => l01All_any 1 q sl4 cap4 ts W (by unfold maxLen; omega) (ht.below hW)
  by_cases h5 : 400 < ids.length
  · have h5' : (400 : Int) < (ids.length : Int) := by omega
    rw [poA_no (fun g => by have := g.2.1.1; omega)]
    have P := Lib.hid (own_mono O0.out (Nat.le_succ w.heap.size))
    clear hz hp hi ht E1 E2 E3 O0 X0 HT
    generalize rs.length = rn at *
    generalize ps.length = pn at *
    generalize ids.length = n at *
    generalize ts.length = m at *
    go_enter Try.func62, Try.ntmps62
    go_wp2
    go_ret
    exact ⟨_, rfl, P.out, B0.out⟩
  have h5' : ¬ (400 : Int) < (ids.length : Int) := by omega
  by_cases h4 : 400 < ts.length
  · have h4' : (400 : Int) < (ts.length : Int) := by omega
    rw [poA_no (fun g => by have := g.1; omega)]
    have P := Lib.hid (own_mono O0.out (Nat.le_succ w.heap.size))
    clear hz hp hi ht E1 E2 E3 O0 X0 HT
    generalize rs.length = rn at *
    generalize ps.length = pn at *
    generalize ids.length = n at *
    generalize ts.length = m at *
    go_enter Try.func62, Try.ntmps62
    go_wp2
    go_ret
    exact ⟨_, rfl, P.out, B0.out⟩
  have h4' : ¬ (400 : Int) < (ts.length : Int) := by omega
  cases hb : B (IdsR rs ps ids) with
  | false =>
    rw [poA_no (fun g => B_false hb g.2.1)]
    rw [hb] at E1
    have P := Lib.hid (own_mono O0.out (Nat.le_succ w.heap.size))
    clear hb hz hp hi ht E2 E3 HT X0 O0
    generalize rs.length = rn at *
    generalize ps.length = pn at *
    generalize ids.length = n at *
    generalize ts.length = m at *
    go_enter Try.func62, Try.ntmps62
    go_wp2_with fail
    refine (E1.out _ B0.out).mono ?_
    rintro e w1 ⟨rfl, b1⟩
    have D1 := Lib.hid (bT B0.out b1)
    have P1 := Lib.hid (own_below P.out b1)
    clear b1 E1 P
    go_wp2
    go_ret
    exact ⟨_, rfl, P1.out, D1.out⟩
  | true =>
    rw [hb] at E1
    have IR := B_true hb
    have hpl : (plF rs top ids).length ≤ 38400 := by
      have := plF_le top ids IR.2.1
      have := IR.1
      omega
    have E4 : Hid (∀ W, Below w.heap.size w W → Calls Try.prog 90 #[TV sl rs.length cap sl2 ps.length cap2, .int .i64 top, .slice sl3 ids.length cap3] W fun e w' => ∃ s c, e = .returned (.slice s (plF rs top ids).length c) ∧ w'.ownsRow W.heap.size 34 2 (.slice s (plF rs top ids).length c) (plF rs top ids).length (enCells (plF rs top ids)) ∧ Below W.heap.size W w') := fun W hW => by
      have := vars_any sl cap sl2 cap2 sl3 cap3 rs ps top ids W hn IR.1 (hz.below hW) (hp.below hW) IR.2.1 (hi.below hW)
      refine this.mono ?_
      rintro e w' ⟨v, rfl, o, bl⟩
      obtain ⟨s, c, rfl⟩ := own_v o
      exact ⟨s, c, rfl, o, bl⟩
    cases hr : B (RiseTo ts ts.length) with
    | false =>
      rw [poA_no (fun g => B_false hr ((InRise.iff 1 _ ts).1 g.2.2.1).1)]
      rw [hr] at E2
      clear hr E3
      clear hb hz hp hi ht IR
      generalize hPQ : plF rs top ids = qs at *
      clear hPQ
      generalize rs.length = rn at *
      generalize ps.length = pn at *
      generalize ids.length = n at *
      generalize ts.length = m at *
      go_enter Try.func62, Try.ntmps62
      go_wp2_with fail
      refine (E1.out _ B0.out).mono ?_
      rintro e w1 ⟨rfl, b1⟩
      have D1 := Lib.hid (bT B0.out b1)
      have TA := X0.out.below b1
      obtain ⟨t0, t1⟩ := TA.cells
      have tl := TA.lt
      have O1 := Lib.hid (own_below O0.out b1)
      clear b1 E1 TA HT X0 O0
      go_wp2_with fail
      refine (E4.out _ D1.out).mono ?_
      rintro e w5 ⟨s5, c5, rfl, o5, b5⟩
      have D5 := Lib.hid (bT D1.out b5)
      have OO := Lib.hid (own_below O1.out b5)
      have O5 := Lib.hid o5
      clear o5 b5 E4 t0 t1 tl O1
      go_wp2_with fail
      refine (E2.out _ D5.out).mono ?_
      rintro e w6 ⟨rfl, b6⟩
      have D6 := Lib.hid (bT D5.out b6)
      have O6 := Lib.hid (own_below OO.out b6)
      have Z6 := Lib.hid (own_below O5.out b6)
      clear b6 E2 OO O5
      have P := Lib.hid (own_mono O6.out (Nat.le_succ w.heap.size))
      go_wp2
      go_ret
      exact ⟨_, rfl, P.out, D6.out⟩
    | true =>
      rw [hr] at E2
      cases ha : ts.all (inB 1 (plF rs top ids).length) with
      | false =>
        rw [poA_no (fun g => by have := ((InRise.iff 1 _ ts).1 g.2.2.1).2; rw [ha] at this; cases this)]
        have E3' : Hid (∀ W, Below w.heap.size w W → Calls Try.prog 120 #[.slice sl4 ts.length cap4, .int .i64 1, .int .i64 ((plF rs top ids).length : Int)] W fun e w' => e = .returned (.bool false) ∧ w' = W) := fun W hW => by
          have := E3.out ((plF rs top ids).length : Int) W hW
          rwa [ha] at this
        clear hr ha E3
        clear hb hz hp hi ht IR
        generalize hPQ : plF rs top ids = qs at *
        clear hPQ
        generalize rs.length = rn at *
        generalize ps.length = pn at *
        generalize ids.length = n at *
        generalize ts.length = m at *
        go_enter Try.func62, Try.ntmps62
        go_wp2_with fail
        refine (E1.out _ B0.out).mono ?_
        rintro e w1 ⟨rfl, b1⟩
        have D1 := Lib.hid (bT B0.out b1)
        have TA := X0.out.below b1
        obtain ⟨t0, t1⟩ := TA.cells
        have tl := TA.lt
        have O1 := Lib.hid (own_below O0.out b1)
        clear b1 E1 TA HT X0 O0
        go_wp2_with fail
        refine (E4.out _ D1.out).mono ?_
        rintro e w5 ⟨s5, c5, rfl, o5, b5⟩
        have D5 := Lib.hid (bT D1.out b5)
        have OO := Lib.hid (own_below O1.out b5)
        have O5 := Lib.hid o5
        clear o5 b5 E4 t0 t1 tl O1
        go_wp2_with fail
        refine (E2.out _ D5.out).mono ?_
        rintro e w6 ⟨rfl, b6⟩
        have D6 := Lib.hid (bT D5.out b6)
        have O6 := Lib.hid (own_below OO.out b6)
        have Z6 := Lib.hid (own_below O5.out b6)
        clear b6 E2 OO O5
        go_wp2_with fail
        refine (E3'.out _ D6.out).mono ?_
        rintro e w7 ⟨rfl, rfl⟩
        have P := Lib.hid (own_mono O6.out (Nat.le_succ w.heap.size))
        go_wp2
        go_ret
        exact ⟨_, rfl, P.out, D6.out⟩
      | true =>
        have IT := Lib.hid ((InRise.iff 1 ((plF rs top ids).length : Int) ts).2 ⟨B_true hr, ha⟩)
        have E3' : Hid (∀ W, Below w.heap.size w W → Calls Try.prog 120 #[.slice sl4 ts.length cap4, .int .i64 1, .int .i64 ((plF rs top ids).length : Int)] W fun e w' => e = .returned (.bool true) ∧ w' = W) := fun W hW => by
          have := E3.out ((plF rs top ids).length : Int) W hW
          rwa [ha] at this
        clear hr ha E3
        by_cases hlen : ts.length = ids.length
        · have YY := Lib.hid (show pidsL (poP (plF rs top ids) ts) = ids → poA rs ps top ids ts = poP (plF rs top ids) ts from fun e => poA_yes ⟨by omega, IR, IT.out, e⟩)
          have NN := Lib.hid (show ∀ k, (pidsL (poP (plF rs top ids) ts)).getD k 0 ≠ ids.getD k 0 → poA rs ps top ids ts = [] from fun k e => poA_no (fun g => e (by rw [g.2.2.2])))
          have hlen' : ((ts.length : Int) != (ts.length : Int)) = false := by simp
          have HTS := Lib.hid ht
          have HIS := Lib.hid hi
          have HLL := Lib.hid hlen
          clear hb hz hp hi ht IR
          rw [← hlen] at E1 E4 h5' ⊢
          rw [← hlen] at hl h5
          clear hlen
          generalize poA rs ps top ids ts = ans at *
          generalize plF rs top ids = qs at *
          generalize rs.length = rn at *
          generalize ps.length = pn at *
          generalize hM : ts.length = m at *
          have HM := Lib.hid hM
          clear hM
          generalize hQ : qs.length = q at *
          have HQ := Lib.hid hQ
          clear hQ
          go_enter Try.func62, Try.ntmps62
          go_wp2_with fail
          refine (E1.out _ B0.out).mono ?_
          rintro e w1 ⟨rfl, b1⟩
          have D1 := Lib.hid (bT B0.out b1)
          have TA := X0.out.below b1
          obtain ⟨t0, t1⟩ := TA.cells
          have tl := TA.lt
          have O1 := Lib.hid (own_below O0.out b1)
          clear b1 E1 TA HT X0 O0
          go_wp2_with fail
          refine (E4.out _ D1.out).mono ?_
          rintro e w5 ⟨s5, c5, rfl, o5, b5⟩
          have D5 := Lib.hid (bT D1.out b5)
          have OO := Lib.hid (own_below O1.out b5)
          obtain ⟨wb, hwb⟩ : ∃ wb, wb = w1.heap.size := ⟨_, rfl⟩
          rw [← hwb] at o5
          have O5 := Lib.hid o5
          have hwb2 : w.heap.size + 1 < wb := by
            rw [hwb]
            exact (O1.out.lt (w.heap.size + 1) rfl).2
          clear o5 b5 E4 t0 t1 tl O1 hwb D1
          go_wp2_with fail
          refine (E2.out _ D5.out).mono ?_
          rintro e w6 ⟨rfl, b6⟩
          have D6 := Lib.hid (bT D5.out b6)
          have O6 := Lib.hid (own_below OO.out b6)
          have Z6 := Lib.hid (own_below O5.out b6)
          clear b6 E2 OO O5 D5
          go_wp2_with fail
          refine (E3'.out _ D6.out).mono ?_
          rintro e w7 ⟨rfl, rfl⟩
          clear E3'
          have NE0 := Lib.hid (show ∀ jj, (Value.slice s5 q c5).ownBlock = some jj → w.heap.size + 1 < jj ∧ jj < w7.heap.size from fun jj hj => by have := Z6.out.lt jj hj; omega)
          have hw7 := (O6.out.lt (w.heap.size + 1) rfl).2
          go_wp2
          go_loopw [9, 11] (fun v i wr => ∃ (k : Nat) (cu : List LPl), i = .int .i64 k ∧ k ≤ m ∧ cu.length ≤ k ∧ Hid (cu = poP qs (ts.take k) ∧ pidsL cu = ids.take k) ∧ Hid (wr.ownsRow (w.heap.size + 1) 34 2 v cu.length (enCells cu)) ∧ Hid (wr.ownsRow wb 34 2 (.slice s5 q c5) q (enCells qs)) ∧ Hid (∀ jj, v.ownBlock = some jj → (Value.slice s5 q c5).ownBlock ≠ some jj) ∧ Hid (Below (w.heap.size + 1) w7 wr)) (fun _ i _ => m - (intOf i).toNat)
          case atStart => exact ⟨0, [], rfl, Nat.zero_le _, Nat.zero_le _, ⟨rfl, rfl⟩, O6, Z6, (fun jj hj e => by have := NE0.out jj e; simp [Value.ownBlock] at hj; omega), Below.refl _ _⟩
          case round =>
            obtain ⟨k, cu, rfl, hk, hcl, HC, OR, OZ, NE, HB⟩ := hrel
            have hk0 : (0 : Int) ≤ (k : Int) := by omega
            have DW := Lib.hid (D6.out.trans (HB.out.mono (Nat.le_succ _)))
            have hsw := HB.out.size
            by_cases g1 : k < m
            · have g1' : (k : Int) < (m : Int) := by omega
              have hlt : k < ts.length := by rw [HM.out]; exact g1
              have hlti : k < ids.length := by rw [← HLL.out]; exact g1
              obtain ⟨g, o, rfl, TI⟩ : ∃ g o, sl4 = some ⟨g, o, none⟩ ∧ IntsAt w g o ts := by
                rcases HTS.out with e | h
                · rw [e] at hlt; simp at hlt
                · exact h
              obtain ⟨gi, oi, rfl, II⟩ : ∃ g o, sl3 = some ⟨g, o, none⟩ ∧ IntsAt w g o ids := by
                rcases HIS.out with e | h
                · rw [e] at hlti; simp at hlti
                · exact h
              have hc := (DW.out.cell (p := ⟨g, o + k, none⟩) TI.1).trans (TI.2 k hlt)
              have hci := (DW.out.cell (p := ⟨gi, oi + k, none⟩) II.1).trans (II.2 k hlti)
              have gl : g < wr.heap.size := Nat.lt_of_lt_of_le TI.1 DW.out.size
              have gil : gi < wr.heap.size := Nat.lt_of_lt_of_le II.1 DW.out.size
              have hzb := (IT.out k hlt).1
              have PS := Lib.hid (poP_step qs ts k hlt)
              have PG := Lib.hid (poP_get qs ts k hlt)
              have IS := Lib.hid (show ids.take (k + 1) = ids.take k ++ [ids.getD k 0] by rw [List.take_succ_eq_append_getElem hlti]; simp [hlti])
              have NK := Lib.hid (NN.out k)
              rw [PG.out] at NK
              clear hlt hlti TI II PG
              generalize ts.getD k 0 = z at *
              generalize ids.getD k 0 = x at *
              obtain ⟨z1, z2⟩ := hzb
              obtain ⟨j, rfl⟩ : ∃ j : Nat, z = (j : Int) + 1 := ⟨(z - 1).toNat, by omega⟩
              have hjq : j < q := by omega
              have hjn : ((j : Int) + 1 - 1).toNat = j := by omega
              have hlt2 : j < qs.length := by rw [HQ.out]; exact hjq
              obtain ⟨a, b, hpj⟩ : ∃ a b, qs[j] = (a, b) := ⟨_, _, rfl⟩
              have GD : qs.getD j (0, 0) = (a, b) := by rw [← hpj]; simp [hlt2]
              rw [hjn, GD] at PS NK
              have EC := enCells_at qs j hlt2
              rw [hpj] at EC
              dsimp only at EC
              obtain ⟨c, rfl, cl, d0, d1⟩ : ∃ c, s5 = some ⟨c, 0, none⟩ ∧ c < wr.heap.size ∧ wr.cell? ⟨c, j * 2, none⟩ = some (.int .i64 a) ∧ wr.cell? ⟨c, j * 2 + 1, none⟩ = some (.int .i64 b) := by
                have hZ2 := OZ.out
                rcases hZ2.2 with ⟨_, h0⟩ | ⟨g, cp, cur, hv, _, hg, _⟩
                · omega
                · obtain rfl : s5 = some ⟨g, 0, none⟩ := (Value.slice.inj hv).1
                  exact ⟨g, rfl, (Array.getElem?_eq_some_iff.1 hg).1, by rw [hZ2.cellAt (j * 2) (by omega), EC.1], by rw [hZ2.cellAt (j * 2 + 1) (by omega), EC.2]⟩
              have hjz : (0 : Int) ≤ (j : Int) := by omega
              have hjz2 : (j : Int) < (q : Int) := by omega
              have hwj : IntKind.i64.wrap (j : Int) = (j : Int) := by rw [IntKind.wrap_i64]; omega
              have KB : Hid (g < wr.drew.heap.size ∧ c < wr.drew.heap.size ∧ gi < wr.drew.heap.size ∧ wr.drew.cell? ⟨g, o + k, none⟩ = some (.int .i64 ((j : Int) + 1)) ∧ wr.drew.cell? ⟨c, j * 2, none⟩ = some (.int .i64 a) ∧ wr.drew.cell? ⟨gi, oi + k, none⟩ = some (.int .i64 x)) := ⟨gl, cl, gil, hc, d0, hci⟩
              clear hlt2 EC GD hpj hjn z1 z2
              by_cases hax : a = x
              · have hax' : (a != x) = false := by rw [hax]; simp
                have CS := Lib.hid (show cu ++ [(a, b)] = poP qs (ts.take (k + 1)) ∧ pidsL (cu ++ [(a, b)]) = ids.take (k + 1) from ⟨by rw [PS.out, HC.out.1], by rw [pidsL_app, HC.out.2, IS.out]; simp [pidsL, hax]⟩)
                have EV := Lib.hid (show enCells cu ++ [.int .i64 a, .int .i64 b] = enCells (cu ++ [(a, b)]) from (enCells_add cu (a, b)).symm)
                have O2 : Hid (wr.drew.ownsRow (w.heap.size + 1) 34 2 _ cu.length (enCells cu)) := OR.out
                have Z2 : Hid (wr.drew.ownsRow wb 34 2 (.slice (some ⟨c, 0, none⟩) q c5) q (enCells qs)) := OZ.out
                have H2 := Lib.hid HB.out.drew
                have hcd : wr.drew.cell? ⟨g, o + k, none⟩ = some (.int .i64 ((j : Int) + 1)) := hc
                have hdd0 : wr.drew.cell? ⟨c, j * 2, none⟩ = some (.int .i64 a) := d0
                have hdd1 : wr.drew.cell? ⟨c, j * 2 + 1, none⟩ = some (.int .i64 b) := d1
                have hgd : g < wr.drew.heap.size := gl
                have hcld : c < wr.drew.heap.size := cl
                clear hax PS IS NK HC OR OZ HB DW hc hci d0 d1
                go_wp2_with fail
                refine wp_region_held_drew (S := fun W => g < W.heap.size ∧ c < W.heap.size ∧ gi < W.heap.size ∧ W.cell? ⟨g, o + k, none⟩ = some (.int .i64 ((j : Int) + 1)) ∧ W.cell? ⟨c, j * 2, none⟩ = some (.int .i64 a) ∧ W.cell? ⟨gi, oi + k, none⟩ = some (.int .i64 x)) (by kernel_rfl) ?_ (fun hHeld => ?_)
                · exact KB.out
                refine wpAnyH_take (i := 0) (oi := _) (v := ?_) rfl (by kernel_rfl) (by kernel_rfl) (by kernel_rfl) (fun _ _ _ h => h) (Or.inl ⟨by rfl, ?_⟩) (by assumption) ?_
                rotate_left
                · first | (intro w hSw; (try dsimp only at hSw); go_simp; done) | (intro w hSw; (try dsimp only at hSw); go_simp; with_reducible rfl)
                try simp only [Act.put, List.setIfInBounds_toArray, List.set_cons_zero, List.set_cons_succ, List.getElem_toArray, List.getElem_cons_zero]
                refine wpAnyH_take (i := 1) (oi := _) (v := ?_) rfl (by kernel_rfl) (by kernel_rfl) (by kernel_rfl) (fun _ _ _ h => h) (Or.inl ⟨by rfl, ?_⟩) (by assumption) ?_
                rotate_left
                · first | (intro w hSw; (try dsimp only at hSw); go_simp; done) | (intro w hSw; (try dsimp only at hSw); go_simp; with_reducible rfl)
                try simp only [Act.put, List.setIfInBounds_toArray, List.set_cons_zero, List.set_cons_succ, List.getElem_toArray, List.getElem_cons_succ, List.getElem_cons_zero]
                refine wpAnyH_take (i := 2) (oi := _) (v := ?_) rfl (by kernel_rfl) (by kernel_rfl) (by kernel_rfl) (fun _ _ _ h => h) (Or.inl ⟨by rfl, ?_⟩) (by assumption) ?_
                rotate_left
                · first | (intro w hSw; (try dsimp only at hSw); go_simp; done) | (intro w hSw; (try dsimp only at hSw); go_simp; with_reducible rfl)
                try simp only [Act.put, List.setIfInBounds_toArray, List.set_cons_zero, List.set_cons_succ, List.getElem_toArray, List.getElem_cons_succ, List.getElem_cons_zero]
                refine wpAnyH_take (i := 3) (oi := _) (v := ?_) rfl (by kernel_rfl) (by kernel_rfl) (by kernel_rfl) (fun _ _ _ h => h) (Or.inl ⟨by rfl, ?_⟩) (by assumption) ?_
                rotate_left
                · first | (intro w hSw; (try dsimp only at hSw); go_simp; done) | (intro w hSw; (try dsimp only at hSw); go_simp; with_reducible rfl)
                try simp only [Act.put, List.setIfInBounds_toArray, List.set_cons_zero, List.set_cons_succ, List.getElem_toArray, List.getElem_cons_succ, List.getElem_cons_zero]
                refine wpAnyH_take (i := 4) (oi := _) (v := ?_) rfl (by kernel_rfl) (by kernel_rfl) (by kernel_rfl) (fun _ _ _ h => h) (Or.inl ⟨by rfl, ?_⟩) (by assumption) ?_
                rotate_left
                · first | (intro w hSw; (try dsimp only at hSw); go_simp; done) | (intro w hSw; (try dsimp only at hSw); go_simp; with_reducible rfl)
                try simp only [Act.put, List.setIfInBounds_toArray, List.set_cons_zero, List.set_cons_succ, List.getElem_toArray, List.getElem_cons_succ, List.getElem_cons_zero]
                refine wpAnyH_take (i := 5) (oi := _) (v := ?_) rfl (by kernel_rfl) (by kernel_rfl) (by kernel_rfl) (fun _ _ _ h => h) (Or.inl ⟨by rfl, ?_⟩) (by assumption) ?_
                rotate_left
                · first | (intro w hSw; (try dsimp only at hSw); go_simp; done) | (intro w hSw; (try dsimp only at hSw); go_simp; with_reducible rfl)
                try simp only [Act.put, List.setIfInBounds_toArray, List.set_cons_zero, List.set_cons_succ, List.getElem_toArray, List.getElem_cons_succ, List.getElem_cons_zero]
                refine wpAnyH_take (i := 6) (oi := _) (v := ?_) rfl (by kernel_rfl) (by kernel_rfl) (by kernel_rfl) (fun _ _ _ h => h) (Or.inl ⟨by rfl, ?_⟩) (by assumption) ?_
                rotate_left
                · first | (intro w hSw; (try dsimp only at hSw); go_simp; done) | (intro w hSw; (try dsimp only at hSw); go_simp; with_reducible rfl)
                try simp only [Act.put, List.setIfInBounds_toArray, List.set_cons_zero, List.set_cons_succ, List.getElem_toArray, List.getElem_cons_succ, List.getElem_cons_zero]
                refine wpAnyH_take (i := 7) (oi := _) (v := ?_) rfl (by kernel_rfl) (by kernel_rfl) (by kernel_rfl) (fun _ _ _ h => h) (Or.inl ⟨by rfl, ?_⟩) (by assumption) ?_
                rotate_left
                · first | (intro w hSw; (try dsimp only at hSw); go_simp; done) | (intro w hSw; (try dsimp only at hSw); go_simp; with_reducible rfl)
                try simp only [Act.put, List.setIfInBounds_toArray, List.set_cons_zero, List.set_cons_succ, List.getElem_toArray, List.getElem_cons_succ, List.getElem_cons_zero]
                refine wpAnyH_take (i := 8) (oi := _) (v := ?_) rfl (by kernel_rfl) (by kernel_rfl) (by kernel_rfl) (fun _ _ _ h => h) (Or.inl ⟨by rfl, ?_⟩) (by assumption) ?_
                rotate_left
                · first | (intro w hSw; (try dsimp only at hSw); go_simp; done) | (intro w hSw; (try dsimp only at hSw); go_simp; with_reducible rfl)
                try simp only [Act.put, List.setIfInBounds_toArray, List.set_cons_zero, List.set_cons_succ, List.getElem_toArray, List.getElem_cons_succ, List.getElem_cons_zero]
                refine wpAnyH_take (i := 9) (oi := _) (v := ?_) rfl (by kernel_rfl) (by kernel_rfl) (by kernel_rfl) (fun _ _ _ h => h) (Or.inl ⟨by rfl, ?_⟩) (by assumption) ?_
                rotate_left
                · first | (intro w hSw; (try dsimp only at hSw); go_simp; done) | (intro w hSw; (try dsimp only at hSw); go_simp; with_reducible rfl)
                try simp only [Act.put, List.setIfInBounds_toArray, List.set_cons_zero, List.set_cons_succ, List.getElem_toArray, List.getElem_cons_succ, List.getElem_cons_zero]
                refine wpAnyH_take (i := 10) (oi := _) (v := ?_) rfl (by kernel_rfl) (by kernel_rfl) (by kernel_rfl) (fun _ _ _ h => h) (Or.inl ⟨by rfl, ?_⟩) (by assumption) ?_
                rotate_left
                · first | (intro w hSw; (try dsimp only at hSw); go_simp; done) | (intro w hSw; (try dsimp only at hSw); go_simp; with_reducible rfl)
                try simp only [Act.put, List.setIfInBounds_toArray, List.set_cons_zero, List.set_cons_succ, List.getElem_toArray, List.getElem_cons_succ, List.getElem_cons_zero]
                refine wpAnyH_take (i := 11) (oi := _) (v := ?_) rfl (by kernel_rfl) (by kernel_rfl) (by kernel_rfl) (fun _ _ _ h => h) (Or.inl ⟨by rfl, ?_⟩) (by assumption) ?_
                rotate_left
                · first | (intro w hSw; (try dsimp only at hSw); go_simp; done) | (intro w hSw; (try dsimp only at hSw); go_simp; with_reducible rfl)
                try simp only [Act.put, List.setIfInBounds_toArray, List.set_cons_zero, List.set_cons_succ, List.getElem_toArray, List.getElem_cons_succ, List.getElem_cons_zero]
                refine wpAnyH_take (i := 12) (oi := _) (v := ?_) rfl (by kernel_rfl) (by kernel_rfl) (by kernel_rfl) (fun _ _ _ h => h) (Or.inl ⟨by rfl, ?_⟩) (by assumption) ?_
                rotate_left
                · first | (intro w hSw; (try dsimp only at hSw); go_simp; done) | (intro w hSw; (try dsimp only at hSw); go_simp; with_reducible rfl)
                try simp only [Act.put, List.setIfInBounds_toArray, List.set_cons_zero, List.set_cons_succ, List.getElem_toArray, List.getElem_cons_succ, List.getElem_cons_zero]
                refine wpAnyH_take (i := 13) (oi := _) (v := ?_) rfl (by kernel_rfl) (by kernel_rfl) (by kernel_rfl) (fun _ _ _ h => h) (Or.inl ⟨by rfl, ?_⟩) (by assumption) ?_
                rotate_left
                · first | (intro w hSw; (try dsimp only at hSw); go_simp; done) | (intro w hSw; (try dsimp only at hSw); go_simp; with_reducible rfl)
                try simp only [Act.put, List.setIfInBounds_toArray, List.set_cons_zero, List.set_cons_succ, List.getElem_toArray, List.getElem_cons_succ, List.getElem_cons_zero]
                refine wpAnyH_done (by kernel_rfl) ?_ _
                go_wp2_with (first | (at_builtin; refine wpList_append_lies _ rfl (.tmp 71) (.tmp 80) 27 rfl (w.heap.size + 1) 34 i3 (.agg #[.int .i64 0, .int .i64 0]) 2 16 Try.underlying27 hi3 hd0 hd1 hd2 rfl (by decide) _ _ _ rfl (O2.out.alloc _) ⟨wr.heap.size, 0, none⟩ 1 1 [.int .i64 a, .int .i64 b] rfl rfl (cell_two_new wr.drew _ _ _) (by intro u hu; simp at hu; rcases hu with rfl | rfl <;> rfl) (by decide) (by unfold maxLen; omega) (by omega) (by simp; omega) (wr.heap.size + 1) (by simp) ?_))
                intro g9 cap9 w9 own9 grow9 hg9 hlt9
                have B9 := Lib.hid ((bA1 H2.out (.cells #[.int .i64 a, .int .i64 b] 34) (by show w.heap.size + 1 ≤ wr.heap.size; omega)).grown grow9 (by show w.heap.size + 1 ≤ (wr.drew.alloc _).heap.size; simp; omega) (fun jj hj => (O2.out.lt jj hj).1))
                have Z9 := Lib.hid ((Z2.out.alloc (.cells #[.int .i64 a, .int .i64 b] 34)).kept grow9 (.inr (fun e => NE.out c e.symm rfl)))
                have NE9 : Hid (∀ jj, (Value.slice (some ⟨g9, 0, none⟩) (cu.length + 1) cap9).ownBlock = some jj → (Value.slice (some ⟨c, 0, none⟩) q c5).ownBlock ≠ some jj) := fun jj hj => by
                  obtain rfl : g9 = jj := by simpa [Value.ownBlock] using hj
                  rcases hg9 with h | h
                  · exact NE.out _ h
                  · intro e
                    have : c = g9 := by simpa [Value.ownBlock] using e
                    omega
                rw [EV.out] at own9
                have N9 : Hid (w9.ownsRow (w.heap.size + 1) 34 2 (.slice (some ⟨g9, 0, none⟩) (cu.length + 1) cap9) (cu ++ [(a, b)]).length (enCells (cu ++ [(a, b)]))) := by
                  rw [List.length_append]; exact own9
                have LL := Lib.hid (show (cu ++ [(a, b)]).length ≤ k + 1 by rw [List.length_append]; simp; omega)
                clear own9 grow9 hg9 hlt9 O2 Z2 H2 EV NE
                go_wp2
                go_roundw
                case rel => exact ⟨k + 1, cu ++ [(a, b)], by go_num, by omega, LL.out, CS, N9, Z9, NE9, B9⟩
                case measure => simp [intOf]; omega
              · have hax' : (a != x) = true := by simpa using hax
                have AN := Lib.hid (NK.out hax)
                have D9 := Lib.hid (bA DW.out.drew (.cells #[] 34))
                have O9 := Lib.hid (own_mono (own_e34 wr.drew) (show w.heap.size ≤ wr.drew.heap.size from DW.out.size))
                clear hax PS IS NK HC OR OZ HB DW hc hci d0 d1
                go_wp2_with fail
                refine wp_region_held_drew (S := fun W => g < W.heap.size ∧ c < W.heap.size ∧ gi < W.heap.size ∧ W.cell? ⟨g, o + k, none⟩ = some (.int .i64 ((j : Int) + 1)) ∧ W.cell? ⟨c, j * 2, none⟩ = some (.int .i64 a) ∧ W.cell? ⟨gi, oi + k, none⟩ = some (.int .i64 x)) (by kernel_rfl) ?_ (fun hHeld => ?_)
                · exact KB.out
                refine wpAnyH_take (i := 0) (oi := _) (v := ?_) rfl (by kernel_rfl) (by kernel_rfl) (by kernel_rfl) (fun _ _ _ h => h) (Or.inl ⟨by rfl, ?_⟩) (by assumption) ?_
                rotate_left
                · first | (intro w hSw; (try dsimp only at hSw); go_simp; done) | (intro w hSw; (try dsimp only at hSw); go_simp; with_reducible rfl)
                try simp only [Act.put, List.setIfInBounds_toArray, List.set_cons_zero, List.set_cons_succ, List.getElem_toArray, List.getElem_cons_zero]
                refine wpAnyH_take (i := 1) (oi := _) (v := ?_) rfl (by kernel_rfl) (by kernel_rfl) (by kernel_rfl) (fun _ _ _ h => h) (Or.inl ⟨by rfl, ?_⟩) (by assumption) ?_
                rotate_left
                · first | (intro w hSw; (try dsimp only at hSw); go_simp; done) | (intro w hSw; (try dsimp only at hSw); go_simp; with_reducible rfl)
                try simp only [Act.put, List.setIfInBounds_toArray, List.set_cons_zero, List.set_cons_succ, List.getElem_toArray, List.getElem_cons_succ, List.getElem_cons_zero]
                refine wpAnyH_take (i := 2) (oi := _) (v := ?_) rfl (by kernel_rfl) (by kernel_rfl) (by kernel_rfl) (fun _ _ _ h => h) (Or.inl ⟨by rfl, ?_⟩) (by assumption) ?_
                rotate_left
                · first | (intro w hSw; (try dsimp only at hSw); go_simp; done) | (intro w hSw; (try dsimp only at hSw); go_simp; with_reducible rfl)
                try simp only [Act.put, List.setIfInBounds_toArray, List.set_cons_zero, List.set_cons_succ, List.getElem_toArray, List.getElem_cons_succ, List.getElem_cons_zero]
                refine wpAnyH_take (i := 3) (oi := _) (v := ?_) rfl (by kernel_rfl) (by kernel_rfl) (by kernel_rfl) (fun _ _ _ h => h) (Or.inl ⟨by rfl, ?_⟩) (by assumption) ?_
                rotate_left
                · first | (intro w hSw; (try dsimp only at hSw); go_simp; done) | (intro w hSw; (try dsimp only at hSw); go_simp; with_reducible rfl)
                try simp only [Act.put, List.setIfInBounds_toArray, List.set_cons_zero, List.set_cons_succ, List.getElem_toArray, List.getElem_cons_succ, List.getElem_cons_zero]
                refine wpAnyH_take (i := 4) (oi := _) (v := ?_) rfl (by kernel_rfl) (by kernel_rfl) (by kernel_rfl) (fun _ _ _ h => h) (Or.inl ⟨by rfl, ?_⟩) (by assumption) ?_
                rotate_left
                · first | (intro w hSw; (try dsimp only at hSw); go_simp; done) | (intro w hSw; (try dsimp only at hSw); go_simp; with_reducible rfl)
                try simp only [Act.put, List.setIfInBounds_toArray, List.set_cons_zero, List.set_cons_succ, List.getElem_toArray, List.getElem_cons_succ, List.getElem_cons_zero]
                refine wpAnyH_take (i := 5) (oi := _) (v := ?_) rfl (by kernel_rfl) (by kernel_rfl) (by kernel_rfl) (fun _ _ _ h => h) (Or.inl ⟨by rfl, ?_⟩) (by assumption) ?_
                rotate_left
                · first | (intro w hSw; (try dsimp only at hSw); go_simp; done) | (intro w hSw; (try dsimp only at hSw); go_simp; with_reducible rfl)
                try simp only [Act.put, List.setIfInBounds_toArray, List.set_cons_zero, List.set_cons_succ, List.getElem_toArray, List.getElem_cons_succ, List.getElem_cons_zero]
                refine wpAnyH_take (i := 6) (oi := _) (v := ?_) rfl (by kernel_rfl) (by kernel_rfl) (by kernel_rfl) (fun _ _ _ h => h) (Or.inl ⟨by rfl, ?_⟩) (by assumption) ?_
                rotate_left
                · first | (intro w hSw; (try dsimp only at hSw); go_simp; done) | (intro w hSw; (try dsimp only at hSw); go_simp; with_reducible rfl)
                try simp only [Act.put, List.setIfInBounds_toArray, List.set_cons_zero, List.set_cons_succ, List.getElem_toArray, List.getElem_cons_succ, List.getElem_cons_zero]
                refine wpAnyH_take (i := 7) (oi := _) (v := ?_) rfl (by kernel_rfl) (by kernel_rfl) (by kernel_rfl) (fun _ _ _ h => h) (Or.inl ⟨by rfl, ?_⟩) (by assumption) ?_
                rotate_left
                · first | (intro w hSw; (try dsimp only at hSw); go_simp; done) | (intro w hSw; (try dsimp only at hSw); go_simp; with_reducible rfl)
                try simp only [Act.put, List.setIfInBounds_toArray, List.set_cons_zero, List.set_cons_succ, List.getElem_toArray, List.getElem_cons_succ, List.getElem_cons_zero]
                refine wpAnyH_take (i := 8) (oi := _) (v := ?_) rfl (by kernel_rfl) (by kernel_rfl) (by kernel_rfl) (fun _ _ _ h => h) (Or.inl ⟨by rfl, ?_⟩) (by assumption) ?_
                rotate_left
                · first | (intro w hSw; (try dsimp only at hSw); go_simp; done) | (intro w hSw; (try dsimp only at hSw); go_simp; with_reducible rfl)
                try simp only [Act.put, List.setIfInBounds_toArray, List.set_cons_zero, List.set_cons_succ, List.getElem_toArray, List.getElem_cons_succ, List.getElem_cons_zero]
                refine wpAnyH_take (i := 9) (oi := _) (v := ?_) rfl (by kernel_rfl) (by kernel_rfl) (by kernel_rfl) (fun _ _ _ h => h) (Or.inl ⟨by rfl, ?_⟩) (by assumption) ?_
                rotate_left
                · first | (intro w hSw; (try dsimp only at hSw); go_simp; done) | (intro w hSw; (try dsimp only at hSw); go_simp; with_reducible rfl)
                try simp only [Act.put, List.setIfInBounds_toArray, List.set_cons_zero, List.set_cons_succ, List.getElem_toArray, List.getElem_cons_succ, List.getElem_cons_zero]
                refine wpAnyH_take (i := 10) (oi := _) (v := ?_) rfl (by kernel_rfl) (by kernel_rfl) (by kernel_rfl) (fun _ _ _ h => h) (Or.inl ⟨by rfl, ?_⟩) (by assumption) ?_
                rotate_left
                · first | (intro w hSw; (try dsimp only at hSw); go_simp; done) | (intro w hSw; (try dsimp only at hSw); go_simp; with_reducible rfl)
                try simp only [Act.put, List.setIfInBounds_toArray, List.set_cons_zero, List.set_cons_succ, List.getElem_toArray, List.getElem_cons_succ, List.getElem_cons_zero]
                refine wpAnyH_take (i := 11) (oi := _) (v := ?_) rfl (by kernel_rfl) (by kernel_rfl) (by kernel_rfl) (fun _ _ _ h => h) (Or.inl ⟨by rfl, ?_⟩) (by assumption) ?_
                rotate_left
                · first | (intro w hSw; (try dsimp only at hSw); go_simp; done) | (intro w hSw; (try dsimp only at hSw); go_simp; with_reducible rfl)
                try simp only [Act.put, List.setIfInBounds_toArray, List.set_cons_zero, List.set_cons_succ, List.getElem_toArray, List.getElem_cons_succ, List.getElem_cons_zero]
                refine wpAnyH_take (i := 12) (oi := _) (v := ?_) rfl (by kernel_rfl) (by kernel_rfl) (by kernel_rfl) (fun _ _ _ h => h) (Or.inl ⟨by rfl, ?_⟩) (by assumption) ?_
                rotate_left
                · first | (intro w hSw; (try dsimp only at hSw); go_simp; done) | (intro w hSw; (try dsimp only at hSw); go_simp; with_reducible rfl)
                try simp only [Act.put, List.setIfInBounds_toArray, List.set_cons_zero, List.set_cons_succ, List.getElem_toArray, List.getElem_cons_succ, List.getElem_cons_zero]
                refine wpAnyH_take (i := 13) (oi := _) (v := ?_) rfl (by kernel_rfl) (by kernel_rfl) (by kernel_rfl) (fun _ _ _ h => h) (Or.inl ⟨by rfl, ?_⟩) (by assumption) ?_
                rotate_left
                · first | (intro w hSw; (try dsimp only at hSw); go_simp; done) | (intro w hSw; (try dsimp only at hSw); go_simp; with_reducible rfl)
                try simp only [Act.put, List.setIfInBounds_toArray, List.set_cons_zero, List.set_cons_succ, List.getElem_toArray, List.getElem_cons_succ, List.getElem_cons_zero]
                refine wpAnyH_done (by kernel_rfl) ?_ _
                go_wp2
                go_ret
                exact ⟨_, rfl, by rw [AN.out]; exact O9.out, D9.out⟩
            · have g1' : ¬ (k : Int) < (m : Int) := by omega
              have e1 : cu = poP qs ts := by rw [HC.out.1, List.take_of_length_le (by rw [HM.out]; omega)]
              have e2 : pidsL (poP qs ts) = ids := by rw [← e1, HC.out.2, List.take_of_length_le (by rw [← HLL.out]; omega)]
              have AN := Lib.hid ((YY.out e2).trans e1.symm)
              have P := Lib.hid (own_mono OR.out (Nat.le_succ w.heap.size))
              clear OR HC OZ e1 e2
              go_wp2
              go_ret
              exact ⟨_, rfl, by rw [AN.out]; exact P.out, DW.out⟩
        · have hlen' : ((ts.length : Int) != (ids.length : Int)) = true := by simpa using (show ¬ (ts.length : Int) = (ids.length : Int) by omega)
          rw [poA_no (fun g => hlen (by have := congrArg List.length g.2.2.2; simpa [pidsL, poP] using this))]
          clear hlen IT
          clear hb hz hp hi ht IR
          generalize hPQ : plF rs top ids = qs at *
          clear hPQ
          generalize rs.length = rn at *
          generalize ps.length = pn at *
          generalize ids.length = n at *
          generalize ts.length = m at *
          go_enter Try.func62, Try.ntmps62
          go_wp2_with fail
          refine (E1.out _ B0.out).mono ?_
          rintro e w1 ⟨rfl, b1⟩
          have D1 := Lib.hid (bT B0.out b1)
          have TA := X0.out.below b1
          obtain ⟨t0, t1⟩ := TA.cells
          have tl := TA.lt
          have O1 := Lib.hid (own_below O0.out b1)
          clear b1 E1 TA HT X0 O0
          go_wp2_with fail
          refine (E4.out _ D1.out).mono ?_
          rintro e w5 ⟨s5, c5, rfl, o5, b5⟩
          have D5 := Lib.hid (bT D1.out b5)
          have OO := Lib.hid (own_below O1.out b5)
          have O5 := Lib.hid o5
          clear o5 b5 E4 t0 t1 tl O1
          go_wp2_with fail
          refine (E2.out _ D5.out).mono ?_
          rintro e w6 ⟨rfl, b6⟩
          have D6 := Lib.hid (bT D5.out b6)
          have O6 := Lib.hid (own_below OO.out b6)
          have Z6 := Lib.hid (own_below O5.out b6)
          clear b6 E2 OO O5
          go_wp2_with fail
          refine (E3'.out _ D6.out).mono ?_
          rintro e w7 ⟨rfl, rfl⟩
          have P := Lib.hid (own_mono O6.out (Nat.le_succ w.heap.size))
          go_wp2
          go_ret
          exact ⟨_, rfl, P.out, D6.out⟩

end Go.Proofs.Ytdmfljejlhlbnaa
namespace Go.Proofs.Ytdmfljejlhlbnaa
open Go.RowKit
set_option linter.unusedVariables false

theorem Row2.plM {w : World} {b n : Nat} {ts : List LPl} (h : Row2 w b n ts) : PlM w b n := by
  obtain ⟨vs, h1, h2, _⟩ := h
  exact ⟨vs, h1, by omega⟩
theorem flat_bare (id top : Int) (rs rs' : List LSt) (h : bareS rs = bareS rs') : rs.flatMap (domF id top) = rs'.flatMap (domF id top) := by
  have e : ∀ l : List LSt, l.flatMap (domF id top) = (bareS l).flatMap (fun r => FF r.1 id top r.2.2) := by
    intro l
    unfold bareS domF
    rw [List.flatMap_map]
  rw [e, e, h]
theorem plF_bare {rs rs' : List LSt} (top : Int) (ids : List Int) (h : bareS rs = bareS rs') : plF rs top ids = plF rs' top ids := by
  unfold plF chF
  congr 1
  funext id
  rw [flat_bare id top rs rs' h]
theorem trA_bare {rs rs' : List LSt} (ps : List LPr) (top : Int) (pl : List LPl) (h : bareS rs = bareS rs') : trA rs ps top pl = trA rs' ps top pl := by
  unfold trA
  rw [planB_bare ps top pl h, plF_bare top (pidsL pl) h]
theorem trA_le (rs : List LSt) (ps : List LPr) (top : Int) (pl : List LPl) : (trA rs ps top pl).length ≤ 1048576 := by
  unfold trA
  split
  · rename_i h
    obtain ⟨h400, IR⟩ := planB_ids h
    have := trK_len pl (plF rs top (pidsL pl)) (plF rs top (pidsL pl)).length
    have := plF_le top (pidsL pl) IR.2.1
    rw [pidsL_len] at this
    omega
  · simp

set_option maxRecDepth 100000 in
set_option maxHeartbeats 4000000 in
theorem law12 (sl : Option Addr) (cap : Nat) (sl2 : Option Addr) (cap2 : Nat) (sl3 : Option Addr) (cap3 : Nat) (rs : List LSt) (ps : List LPr) (l3 : List LPl) (top : Int) (w : World) (h : InT w sl sl2 rs ps) (hl3 : l3.length ≤ maxLen) (h3 : Pls w sl3 l3) :
    Calls Try.prog 12 #[TV sl rs.length cap sl2 ps.length cap2, .int .i64 top, .slice sl3 l3.length cap3] w fun e w' => e = .returned (.bool true) ∧ Below w.heap.size w w' := by
  have SZ : Hid (∀ W, Below w.heap.size w W → Calls Try.prog 36 #[TV sl rs.length cap sl2 ps.length cap2, .int .i64 1048576] W fun e w' => e = .returned (.int .i64 (lft 1048576 (rs.length + totD rs + ps.length))) ∧ Below W.heap.size W w') := fun W hW => szTab_any sl cap sl2 _ cap2 rs W h.ln h.lp (h.st.below hW)
  rcases lft_cases 1048576 (rs.length + totD rs + ps.length) (by omega) with ⟨e, hl⟩ | ⟨e, hl⟩
  · rw [e] at SZ
    clear h h3 e hl
    generalize rs.length = n at *
    generalize ps.length = m at *
    generalize l3.length = q at *
    go_enter Try.func12, Try.ntmps12
    go_wp2_with fail
    refine (SZ.out _ (bA0 _ _)).mono ?_
    rintro e w1 ⟨rfl, b1⟩
    have D1 := Lib.hid (bT (bA0 w _) b1)
    clear b1
    go_wp2
    go_ret
    exact ⟨rfl, D1.out⟩
  rcases lft_cases (1048576 - ((rs.length + totD rs + ps.length : Nat) : Int)) l3.length (by omega) with ⟨e2, hl2⟩ | ⟨e2, hl2⟩
  · rw [e] at SZ
    have SZ2 : Hid (∀ W, Calls Try.prog 37 #[.slice sl3 l3.length cap3, .int .i64 (1048576 - ((rs.length + totD rs + ps.length : Nat) : Int))] W fun e w' => e = .returned (.int .i64 (-1)) ∧ w' = W) := fun W => by
      have := szPl_any sl3 l3.length cap3 (1048576 - ((rs.length + totD rs + ps.length : Nat) : Int)) W hl3 (by omega) (by omega)
      rwa [e2] at this
    have hneg : ¬ ((1048576 : Int) - ((rs.length + totD rs + ps.length : Nat) : Int)) < 0 := by omega
    clear h h3 e hl e2 hl2
    generalize (1048576 : Int) - ((rs.length + totD rs + ps.length : Nat) : Int) = z at *
    generalize rs.length = n at *
    generalize ps.length = m at *
    generalize l3.length = q at *
    go_enter Try.func12, Try.ntmps12
    go_wp2_with fail
    refine (SZ.out _ (bA0 _ _)).mono ?_
    rintro e w1 ⟨rfl, b1⟩
    have D1 := Lib.hid (bT (bA0 w _) b1)
    clear b1
    go_wp2_with fail
    refine (SZ2.out _).mono ?_
    rintro e w2 ⟨rfl, rfl⟩
    go_wp2
    go_ret
    exact ⟨rfl, D1.out⟩
  · rw [e] at SZ
    have SZ2 : Hid (∀ W, Calls Try.prog 37 #[.slice sl3 l3.length cap3, .int .i64 (1048576 - ((rs.length + totD rs + ps.length : Nat) : Int))] W fun e w' => e = .returned (.int .i64 ((1048576 - ((rs.length + totD rs + ps.length : Nat) : Int)) - (l3.length : Int))) ∧ w' = W) := fun W => by
      have := szPl_any sl3 l3.length cap3 (1048576 - ((rs.length + totD rs + ps.length : Nat) : Int)) W hl3 (by omega) (by omega)
      rwa [e2] at this
    have hneg2 : ¬ ((1048576 - ((rs.length + totD rs + ps.length : Nat) : Int)) - (l3.length : Int)) < 0 := by omega
    have hz3 : l3.length ≤ 1048576 := by omega
    have hs : Sts w sl rs := h.st.small (by omega)
    have TO : Hid (∀ W, Below w.heap.size w W → Calls Try.prog 38 #[TV sl rs.length cap sl2 ps.length cap2] W fun e w' => ∃ b1 b2 rs', e = .returned (TV (some ⟨b1, 0, none⟩) rs.length rs.length (some ⟨b2, 0, none⟩) ps.length ps.length) ∧ bareS rs' = bareS rs ∧ OwnT W.heap.size w' b1 b2 rs' ps ∧ Below W.heap.size W w') := fun W hW => toTO_any sl cap sl2 cap2 rs ps W (by omega) (by omega) (hs.below hW) (h.pr.below hW)
    have TP : Hid (∀ W, Below w.heap.size w W → Calls Try.prog 39 #[.slice sl3 l3.length cap3] W fun e w' => e = .returned (.slice (some ⟨W.heap.size, 0, none⟩) l3.length l3.length) ∧ Row2 w' W.heap.size l3.length l3 ∧ Below W.heap.size W w') := fun W hW => toPlS_any sl3 cap3 l3 W hz3 (h3.below hW)
    have hzl := trA_le rs ps top l3
    have SP : Hid (∀ b1 b2 rs' c W, bareS rs' = bareS rs → Sts W (some ⟨b1, 0, none⟩) rs' → Prs W (some ⟨b2, 0, none⟩) ps → Row2 W c l3.length l3 → Calls Try.prog 60 #[TV (some ⟨b1, 0, none⟩) rs.length rs.length (some ⟨b2, 0, none⟩) ps.length ps.length, .int .i64 top, .slice (some ⟨c, 0, none⟩) l3.length l3.length] W fun e w' => ∃ v, e = .returned v ∧ w'.ownsRow W.heap.size 2 1 v (trA rs ps top l3).length (valsZ (trA rs ps top l3)) ∧ Below W.heap.size W w') := fun b1 b2 rs' c W eb s p r => by
      have hl' := bareS_len eb
      have := sto_any (some ⟨b1, 0, none⟩) rs.length (some ⟨b2, 0, none⟩) ps.length (some ⟨c, 0, none⟩) l3.length rs' ps l3 top W (by omega) hz3 s p r.pls
      rwa [hl', trA_bare ps top l3 eb] at this
    have IM : Hid (∀ b1 b2 rs' c W, bareS rs' = bareS rs → Sts W (some ⟨b1, 0, none⟩) rs' → Prs W (some ⟨b2, 0, none⟩) ps → Row2 W c l3.length l3 → Calls Try.prog 23 #[TV (some ⟨b1, 0, none⟩) rs.length rs.length (some ⟨b2, 0, none⟩) ps.length ps.length, .int .i64 top, .slice (some ⟨c, 0, none⟩) l3.length l3.length] W fun e w' => ∃ v, e = .returned v ∧ w'.ownsRow W.heap.size 2 1 v (trA rs ps top l3).length (valsZ (trA rs ps top l3)) ∧ Below W.heap.size W w') := fun b1 b2 rs' c W eb s p r => by
      have hl' := bareS_len eb
      have := ito_any (some ⟨b1, 0, none⟩) rs.length (some ⟨b2, 0, none⟩) ps.length (some ⟨c, 0, none⟩) l3.length rs' ps l3 top W (by omega) hz3 s p h.wf r.pls (Nat.le_refl _)
      rwa [hl', trA_bare ps top l3 eb] at this
    have TE : Hid (∀ b1 b2 rs1 c1 c2 rs2 W, bareS rs1 = bareS rs → bareS rs2 = bareS rs → Sts W (some ⟨b1, 0, none⟩) rs1 → Prs W (some ⟨b2, 0, none⟩) ps → Sts W (some ⟨c1, 0, none⟩) rs2 → Prs W (some ⟨c2, 0, none⟩) ps → Calls Try.prog 41 #[TV (some ⟨b1, 0, none⟩) rs.length rs.length (some ⟨b2, 0, none⟩) ps.length ps.length, TV (some ⟨c1, 0, none⟩) rs.length rs.length (some ⟨c2, 0, none⟩) ps.length ps.length] W fun e w' => e = .returned (.bool true) ∧ Below W.heap.size W w') := fun b1 b2 rs1 c1 c2 rs2 W e1 e2 s1 p1 s2 p2 => by
      have := eqT_any (some ⟨b1, 0, none⟩) (some ⟨c1, 0, none⟩) rs.length rs.length (some ⟨b2, 0, none⟩) (some ⟨c2, 0, none⟩) ps.length ps.length rs1 rs2 ps W (by rw [bareS_len e1]; omega) (by omega) (e1.trans e2.symm) s1 s2 p1 p2
      rwa [bareS_len e1, bareS_len e2] at this
    have TE2 : Hid (∀ b c W, Row2 W b l3.length l3 → Row2 W c l3.length l3 → Calls Try.prog 40 #[.slice (some ⟨b, 0, none⟩) l3.length l3.length, .slice (some ⟨c, 0, none⟩) l3.length l3.length] W fun e w' => e = .returned (.bool true) ∧ Below W.heap.size W w') := fun b c W r1 r2 => eqPlS_any _ _ _ _ l3 W hz3 r1.pls r2.pls
    have MP : Hid (∀ b k W, 0 ≤ k → k ≤ 4000000 → Row2 W b l3.length l3 → Calls Try.prog 43 #[.slice (some ⟨b, 0, none⟩) l3.length l3.length, .int .i64 k] W fun e w' => e = .returned (.int .i64 (k + 2 * (l3.length : Int))) ∧ Only b W w') := fun b k W k0 k1 r => mkPl_any b l3.length k hz3 k0 (by omega) W r.plM
    have MT : Hid (∀ C b1 b2 rs' w0 W, bareS rs' = bareS rs → OwnT C w0 b1 b2 rs' ps → Below w0.heap.size w0 W → Calls Try.prog 42 #[TV (some ⟨b1, 0, none⟩) rs.length rs.length (some ⟨b2, 0, none⟩) ps.length ps.length, .int .i64 1] W fun e w' => ∃ k : Int, (0 ≤ k ∧ k ≤ 4000000) ∧ e = .returned (.int .i64 k) ∧ Btw C w0.heap.size W w') := fun C b1 b2 rs' w0 W eb o hb => by
      have o' := o.below hb
      have st := o.stM.below hb
      have hl' := bareS_len eb
      have ht : totD rs' = totD rs := by
        have := congrArg (List.map fun r : Int × Int × List Int => r.2.2.length) eb
        unfold totD
        simpa [bareS, Function.comp_def] using congrArg List.sum this
      have := mkT_any C w0.heap.size b1 b2 rs' ps.length (by rw [hl', ht]; omega) W st ⟨_, o'.r2.choose_spec.1, o'.r2.choose_spec.2.1⟩ o.lo2 o.r2.lt hb.size
      rwa [hl'] at this
    have hneg : ¬ ((1048576 : Int) - ((rs.length + totD rs + ps.length : Nat) : Int)) < 0 := by omega
    clear h hs e hl h3 e2 hl2
    generalize (1048576 : Int) - ((rs.length + totD rs + ps.length : Nat) : Int) = z at *
    generalize rs.length = n at *
    generalize ps.length = m at *
    generalize trA rs ps top l3 = zs at *
    have EQ : Hid (∀ C C' v v' W, World.ownsRow W C 2 1 v zs.length (valsZ zs) → World.ownsRow W C' 2 1 v' zs.length (valsZ zs) → Calls Try.prog 49 #[v, v'] W fun e w' => e = .returned (.bool true) ∧ Below W.heap.size W w') := fun C C' v v' W o o' => by
      obtain ⟨s1, k1, rfl, i1⟩ := own_ints o
      obtain ⟨s2, k2, rfl, i2⟩ := own_ints o'
      exact eq_any s1 s2 k1 k2 zs W (by unfold maxLen; omega) i1 i2
    have MR : Hid (∀ C v W, World.ownsRow W C 2 1 v zs.length (valsZ zs) → Calls Try.prog 50 #[v, .int .i64 1] W fun e w' => e = .returned (.int .i64 (1 + (zs.length : Int))) ∧ w'.ownsRow C 2 1 v zs.length (valsZ (marks 1 zs.length)) ∧ W.grownBy w' v.ownBlock) := fun C v W o => mark_row C v zs 1 hzl (by omega) (by omega) W o
    have HR : Hid (∀ C v W, World.ownsRow W C 2 1 v zs.length (valsZ (marks 1 zs.length)) → Calls Try.prog 61 #[v, .int .i64 1] W fun e w' => e = .returned (.int .i64 (1 + (zs.length : Int))) ∧ w' = W) := fun C v W o => held_row C v zs.length 1 hzl (by omega) (by omega) W o
    generalize valsZ (marks 1 zs.length) = ms at *
    generalize valsZ zs = xs at *
    generalize zs.length = q at *
    generalize l3.length = u at *
    have HT := Lib.hid (show (w.alloc (.cells #[.slice sl n cap, .slice sl2 m cap2] 59)).heap[w.heap.size]? = some (.cells #[.slice sl n cap, .slice sl2 m cap2] 59) from new_at _ _)
    have B0 := Lib.hid (bA0 w (.cells #[.slice sl n cap, .slice sl2 m cap2] 59))
    have hw0 : (w.alloc (.cells #[.slice sl n cap, .slice sl2 m cap2] 59)).heap.size = w.heap.size + 1 := by simp
    have KT : Hid (∀ W, Below (w.heap.size + 1) (w.alloc (.cells #[.slice sl n cap, .slice sl2 m cap2] 59)) W → w.heap.size < W.heap.size ∧ W.cell? ⟨w.heap.size, 0, none⟩ = some (.slice sl n cap) ∧ W.cell? ⟨w.heap.size, 1, none⟩ = some (.slice sl2 m cap2)) := fun W hW => by
      have := (hW.block w.heap.size (by omega)).trans HT.out
      exact ⟨(Array.getElem?_eq_some_iff.1 this).1, by simp [World.cell?, this], by simp [World.cell?, this]⟩
    go_enter Try.func12, Try.ntmps12
    go_wp2_with fail
    refine (SZ.out _ (bA0 _ _)).mono ?_
    rintro e w1 ⟨rfl, b1⟩
    generalize w.alloc (.cells #[.slice sl n cap, .slice sl2 m cap2] 59) = wA at *
    have A1 : Hid (Below (w.heap.size + 1) wA w1) := by rw [← hw0]; exact b1
    have D1 := Lib.hid (bT B0.out b1)
    clear b1 SZ
    go_wp2_with fail
    refine (SZ2.out _).mono ?_
    rintro e w1' ⟨rfl, rfl⟩
    clear SZ2
    obtain ⟨tl, t0, t1⟩ := KT.out _ A1.out
    have hs1 := A1.out.size
    go_wp2_with fail
    refine (TO.out _ D1.out).mono ?_
    rintro e w2 ⟨b1, b2, rs1, rfl, e1, o1, bl2⟩
    have D2 := Lib.hid (bT D1.out bl2)
    have A2 := Lib.hid (A1.out.trans (bl2.mono (by omega)))
    have O2 := Lib.hid o1
    have E1 := Lib.hid e1
    have hs2 := A2.out.size
    clear e1 o1 bl2 A1 D1 t0 t1 tl
    go_wp2_with fail
    refine (TP.out _ D2.out).mono ?_
    rintro e w2b ⟨rfl, r2, bl2⟩
    have D2b := Lib.hid (bT D2.out bl2)
    have A2b := Lib.hid (A2.out.trans (bl2.mono (by omega)))
    have T2 := Lib.hid (SP.out b1 b2 rs1 _ w2b E1.out (O2.out.below bl2).sts (O2.out.below bl2).prs r2)
    have hs2b := A2b.out.size
    clear r2 bl2 O2 E1 A2 D2
    go_wp2_with fail
    refine T2.out.mono ?_
    rintro e w3 ⟨v0, rfl, q3, bl3⟩
    have D3 := Lib.hid (bT D2b.out bl3)
    have A3 := Lib.hid (A2b.out.trans (bl3.mono (by omega)))
    have V3 := Lib.hid q3
    have L3 := Lib.hid (fun j hj => (q3.lt j hj).2)
    have D3s := Lib.hid D3.out.size
    clear bl3 T2 A2b D2b q3
    obtain ⟨tl, t0, t1⟩ := KT.out _ A3.out
    have hs3 := A3.out.size
    go_wp2_with fail
    refine (TO.out _ D3.out).mono ?_
    rintro e w4 ⟨c1, c2, rs2, rfl, e2, o2, bl4⟩
    have D4 := Lib.hid (bT D3.out bl4)
    have A4 := Lib.hid (A3.out.trans (bl4.mono (by omega)))
    have E2 := Lib.hid e2
    have O4 := Lib.hid o2
    have V4 := Lib.hid (own_below V3.out bl4)
    have hs4 := A4.out.size
    have hs34 := bl4.size
    have X5 := Lib.hid (TabAt.new w4 (some ⟨c1, 0, none⟩) n n (some ⟨c2, 0, none⟩) m m)
    have F5 := Lib.hid (bA0 w4 (.cells #[.slice (some ⟨c1, 0, none⟩) n n, .slice (some ⟨c2, 0, none⟩) m m] 26))
    have D5 := Lib.hid (bA D4.out (.cells #[.slice (some ⟨c1, 0, none⟩) n n, .slice (some ⟨c2, 0, none⟩) m m] 26))
    clear e2 o2 bl4 A3 D3 t0 t1 tl V3
    have hw5 : w4.heap.size < (w4.alloc (.cells #[.slice (some ⟨c1, 0, none⟩) n n, .slice (some ⟨c2, 0, none⟩) m m] 26)).heap.size := by simp
    go_wp2_with fail
    generalize w4.alloc (.cells #[.slice (some ⟨c1, 0, none⟩) n n, .slice (some ⟨c2, 0, none⟩) m m] 26) = w5 at *
    refine (TP.out _ D5.out).mono ?_
    rintro e w5b ⟨rfl, r5, bl5⟩
    have F5b := Lib.hid (bT F5.out bl5)
    have X5b := Lib.hid (X5.out.below bl5)
    have R5b := Lib.hid r5
    have hs5b := R5b.out.lt
    have F6 := Lib.hid (IM.out c1 c2 rs2 _ w5b E2.out (O4.out.below F5b.out).sts (O4.out.below F5b.out).prs r5)
    clear r5 bl5 F5 X5 D5
    obtain ⟨x0, x1⟩ := X5b.out.cells
    have xl := X5b.out.lt
    go_wp2_with fail
    refine F6.out.mono ?_
    rintro e w6 ⟨v6, rfl, q6, bl6⟩
    have hs6 := bl6.size
    have G6 := Lib.hid (bT F5b.out bl6)
    have D6 := Lib.hid (bT D4.out G6.out)
    have A6 := Lib.hid (A4.out.trans (G6.out.mono (by omega)))
    have V6 := Lib.hid (own_below V4.out G6.out)
    have X6 := Lib.hid (X5b.out.below bl6)
    have P6 := Lib.hid (R5b.out.below bl6)
    have R6 := Lib.hid q6
    have L6 := Lib.hid (fun j hj => q6.lt j hj)
    clear q6 bl6 F5b F6 X5b V4 D4 A4 R5b x0 x1 xl
    have E7 := Lib.hid (EQ.out _ _ v6 v0 w6 R6.out V6.out)
    go_wp2_with fail
    refine E7.out.mono ?_
    rintro e w7 ⟨rfl, bl7⟩
    have G7 := Lib.hid (bT G6.out bl7)
    have D7 := Lib.hid (bT D6.out bl7)
    have A7 := Lib.hid (A6.out.trans (bl7.mono (by omega)))
    have V7 := Lib.hid (own_below V6.out bl7)
    have R7 := Lib.hid (own_below R6.out bl7)
    have X7 := Lib.hid (X6.out.below bl7)
    have P7 := Lib.hid (P6.out.below bl7)
    have hs7 := bl7.size
    clear bl7 G6 D6 A6 V6 R6 X6 E7 P6
    have KX : Hid (∀ W, Below w7.heap.size w7 W → w.heap.size < W.heap.size ∧ w4.heap.size < W.heap.size ∧ W.cell? ⟨w.heap.size, 0, none⟩ = some (.slice sl n cap) ∧ W.cell? ⟨w.heap.size, 1, none⟩ = some (.slice sl2 m cap2) ∧ W.cell? ⟨w4.heap.size, 0, none⟩ = some (.slice (some ⟨c1, 0, none⟩) n n) ∧ W.cell? ⟨w4.heap.size, 1, none⟩ = some (.slice (some ⟨c2, 0, none⟩) m m)) := fun W hW => by
      obtain ⟨k1, k2, k3⟩ := KT.out W (A7.out.trans (hW.mono (by omega)))
      obtain ⟨k4, k5⟩ := (X7.out.below hW).cells
      exact ⟨k1, (X7.out.below hW).lt, k2, k3, k4, k5⟩
    go_wp2_with fail
    refine wp_region_held_drew (S := fun W => w.heap.size < W.heap.size ∧ w4.heap.size < W.heap.size ∧ W.cell? ⟨w.heap.size, 0, none⟩ = some (.slice sl n cap) ∧ W.cell? ⟨w.heap.size, 1, none⟩ = some (.slice sl2 m cap2) ∧ W.cell? ⟨w4.heap.size, 0, none⟩ = some (.slice (some ⟨c1, 0, none⟩) n n) ∧ W.cell? ⟨w4.heap.size, 1, none⟩ = some (.slice (some ⟨c2, 0, none⟩) m m)) (by kernel_rfl) ?_ (fun hHeld => ?_)
    · exact KX.out _ (Below.refl _ _).drew
    refine wpAnyH_take (i := 0) (oi := _) (v := ?_) rfl (by kernel_rfl) (by kernel_rfl) (by kernel_rfl) (fun _ _ _ h => h) (Or.inl ⟨by rfl, ?_⟩) (by assumption) ?_
    rotate_left
    · first | (intro w hSw; (try dsimp only at hSw); go_simp; done) | (intro w hSw; (try dsimp only at hSw); go_simp; with_reducible rfl)
    try simp only [Act.put, List.setIfInBounds_toArray, List.set_cons_zero, List.set_cons_succ, List.getElem_toArray, List.getElem_cons_zero]
    refine wpAnyH_take (i := 1) (oi := _) (v := ?_) rfl (by kernel_rfl) (by kernel_rfl) (by kernel_rfl) (fun _ _ _ h => h) (Or.inl ⟨by rfl, ?_⟩) (by assumption) ?_
    rotate_left
    · first | (intro w hSw; (try dsimp only at hSw); go_simp; done) | (intro w hSw; (try dsimp only at hSw); go_simp; with_reducible rfl)
    try simp only [Act.put, List.setIfInBounds_toArray, List.set_cons_zero, List.set_cons_succ, List.getElem_toArray, List.getElem_cons_succ, List.getElem_cons_zero]
    refine wpAnyH_ready (rs := [2]) (by kernel_rfl) (by simp) ?_
    refine AllReadyH.cons rfl (fun K hK => ?_) AllReadyH.nil
    go_simp
    go_wp2_with (go_at_call 38; refine (TO.out _ D7.out.drew).mono ?_; rintro e w8 ⟨d1, d2, rs3, rfl, e3, o3, bl8⟩)
    have D8 : Hid (Below w7.heap.size w7 w8) := bT ((Below.refl w7.heap.size w7).drew) bl8
    have O8 := Lib.hid o3
    have E8 := Lib.hid e3
    clear bl8 o3 e3
    refine hK.out _ _ ?_ (fun hHeld => ?_)
    · exact KX.out _ D8.out
    clear hK K
    refine wpAnyH_ready (rs := [3]) (by kernel_rfl) (by simp) ?_
    refine AllReadyH.cons rfl (fun K hK => ?_) AllReadyH.nil
    go_simp
    go_wp2_with (go_at_call 41; refine (TE.out c1 c2 rs2 d1 d2 rs3 _ E2.out E8.out ((O4.out.below G7.out).below D8.out).sts ((O4.out.below G7.out).below D8.out).prs O8.out.sts O8.out.prs).mono ?_; rintro e w9 ⟨rfl, bl9⟩)
    have D9 : Hid (Below w7.heap.size w7 w9) := bT D8.out bl9
    clear bl9
    refine hK.out _ _ ?_ (fun hHeld => ?_)
    · exact KX.out _ D9.out
    clear hK K
    refine wpAnyH_take (i := 4) (oi := _) (v := ?_) rfl (by kernel_rfl) (by kernel_rfl) (by kernel_rfl) (fun _ _ _ h => h) (Or.inl ⟨by rfl, ?_⟩) (by assumption) ?_
    rotate_left
    · first | (intro w hSw; (try dsimp only at hSw); go_simp; done) | (intro w hSw; (try dsimp only at hSw); go_simp; with_reducible rfl)
    try simp only [Act.put, List.setIfInBounds_toArray, List.set_cons_zero, List.set_cons_succ, List.getElem_toArray, List.getElem_cons_succ, List.getElem_cons_zero]
    refine wpAnyH_done (by kernel_rfl) ?_ _
    have G9 := Lib.hid (bT G7.out D9.out)
    have B9 := Lib.hid (bT D7.out D9.out)
    have A9 := Lib.hid (A7.out.trans (D9.out.mono (by omega)))
    have V9 := Lib.hid (own_below V7.out D9.out)
    have R9 := Lib.hid (own_below R7.out D9.out)
    have X9 := Lib.hid (X7.out.below D9.out)
    have P9 := Lib.hid (P7.out.below D9.out)
    have hs9 := D9.out.size
    clear D9 D8 KX O8 E8 TE G7 D7 A7 V7 R7 X7 P7
    go_wp2_with fail
    refine (TP.out _ B9.out).mono ?_
    rintro e w9b ⟨rfl, r9, bl9⟩
    have T9 := Lib.hid (TE2.out _ _ w9b (P9.out.below bl9) r9)
    have F9 := Lib.hid bl9
    clear r9 bl9
    go_wp2_with fail
    refine T9.out.mono ?_
    rintro e w9c ⟨rfl, bl9⟩
    have F9c := Lib.hid (bT F9.out bl9)
    have G9c := Lib.hid (bT G9.out F9c.out)
    have B9c := Lib.hid (bT B9.out F9c.out)
    have A9c := Lib.hid (A9.out.trans (F9c.out.mono (by omega)))
    have V9c := Lib.hid (own_below V9.out F9c.out)
    have R9c := Lib.hid (own_below R9.out F9c.out)
    have X9c := Lib.hid (X9.out.below F9c.out)
    have P9c := Lib.hid (P9.out.below F9c.out)
    have hs9c := F9c.out.size
    clear bl9 F9 F9c T9 G9 B9 A9 V9 R9 X9 P9
    have M10 := Lib.hid (MT.out _ c1 c2 rs2 w4 w9c E2.out O4.out G9c.out)
    obtain ⟨x0, x1⟩ := X9c.out.cells
    have xl := X9c.out.lt
    go_wp2_with fail
    refine M10.out.mono ?_
    rintro e w10 ⟨k, ⟨k0, k1⟩, rfl, g10⟩
    have V10 := Lib.hid (own_btw V9c.out g10 (fun j hj => .inl (by have := L3.out j hj; omega)))
    have R10 := Lib.hid (own_btw R9c.out g10 (fun j hj => .inr (by have := (L6.out j hj).1; omega)))
    have P10 : Hid (Row2 w10 w5.heap.size u l3) := by
      obtain ⟨vs, a1, a2⟩ := P9c.out
      exact ⟨vs, (g10.block w5.heap.size P9c.out.lt (.inr (by omega))).trans a1, a2⟩
    have B10 := Lib.hid (B9c.out.trans ((g10.below (by omega)).mono (by have := D3s.out; omega)))
    have A10 := Lib.hid (A9c.out.trans ((g10.below (by omega)).mono (by omega)))
    have hs10 := g10.size
    clear g10 M10 V9c R9c B9c A9c X9c x0 x1 xl MT G9c O4 P9c
    go_wp2_with fail
    refine (MP.out _ k w10 k0 k1 P10.out).mono ?_
    rintro e w10b ⟨rfl, g10⟩
    have k2 : ¬ (k + 2 * (u : Int)) < 0 := by omega
    have V10b := Lib.hid (own_btw V10.out ((Btw.refl w5.heap.size (w5.heap.size + 1) w10).only g10 (Nat.le_refl _) (Nat.lt_succ_self _)) (fun j hj => .inl (by have := L3.out j hj; omega)))
    have R10b := Lib.hid (own_btw R10.out ((Btw.refl w5.heap.size (w5.heap.size + 1) w10).only g10 (Nat.le_refl _) (Nat.lt_succ_self _)) (fun j hj => .inr (by have := (L6.out j hj).1; omega)))
    have B10b := Lib.hid (B10.out.grown g10.grownBy (by have := D3s.out; omega) (fun j hj => by cases hj; have := D3s.out; omega))
    have A10b := Lib.hid (A10.out.grown g10.grownBy (by omega) (fun j hj => by cases hj; omega))
    have hs10b := g10.size
    clear g10 V10 R10 B10 A10 P10 MP
    generalize k + 2 * (u : Int) = kk at *
    go_wp2_with fail
    refine (EQ.out _ _ v6 v0 w10b R10b.out V10b.out).mono ?_
    rintro e w11 ⟨rfl, bl11⟩
    have B11 := Lib.hid (bT B10b.out bl11)
    have A11 := Lib.hid (A10b.out.trans (bl11.mono (by omega)))
    have V11 := Lib.hid (own_below V10b.out bl11)
    have R11 := Lib.hid (own_below R10b.out bl11)
    have hs11 := bl11.size
    clear bl11 B10b A10b V10b R10b
    go_wp2_with fail
    refine (MR.out _ v6 w11 R11.out).mono ?_
    rintro e w12 ⟨rfl, o12, g12⟩
    have LB : Hid (∀ j, v6.ownBlock = some j → w4.heap.size < j ∧ j < w11.heap.size) := fun j hj => by
      have := L6.out j hj
      omega
    have V12 := Lib.hid (own_btw V11.out ((Btw.refl w4.heap.size w11.heap.size w11).grown g12 (fun j hj => by have := LB.out j hj; omega)) (fun j hj => .inl (by have := L3.out j hj; omega)))
    have B12 := Lib.hid (B11.out.grown g12 (by have := D3s.out; omega) (fun j hj => by have := LB.out j hj; have := D3s.out; omega))
    have A12 := Lib.hid (A11.out.grown g12 (by omega) (fun j hj => by have := LB.out j hj; omega))
    have R12 := Lib.hid o12
    clear o12 g12 V11 B11 A11 R11 MR LB
    go_wp2_with fail
    refine (HR.out _ v6 w12 R12.out).mono ?_
    rintro e w13 ⟨rfl, rfl⟩
    have hq : ¬ (1 + (q : Int)) < 0 := by omega
    obtain ⟨tl, t0, t1⟩ := KT.out _ A12.out
    go_wp2_with fail
    refine (TO.out _ B12.out).mono ?_
    rintro e w14 ⟨f1, f2, rs4, rfl, e4, o4, bl14⟩
    have F14 := Lib.hid bl14
    have B14 := Lib.hid (bT B12.out bl14)
    have O14 := Lib.hid o4
    have E14 := Lib.hid e4
    clear e4 o4 bl14 tl t0 t1
    go_wp2_with fail
    refine (TP.out _ B14.out).mono ?_
    rintro e w14b ⟨rfl, r14, bl14⟩
    have F14b := Lib.hid (bT F14.out bl14)
    have B14b := Lib.hid (bT B14.out bl14)
    have T15 := Lib.hid (IM.out f1 f2 rs4 _ w14b E14.out (O14.out.below bl14).sts (O14.out.below bl14).prs r14)
    clear r14 bl14 O14 E14 F14 B14
    go_wp2_with fail
    refine T15.out.mono ?_
    rintro e w15 ⟨v15, rfl, q15, bl15⟩
    have B15 := Lib.hid (bT B14b.out bl15)
    have F15 := Lib.hid (bT F14b.out bl15)
    have R15 := Lib.hid q15
    clear q15 bl15 F14b B14b T15
    go_wp2_with fail
    refine (EQ.out _ _ v15 v0 w15 R15.out (own_below V12.out F15.out)).mono ?_
    rintro e w16 ⟨rfl, bl16⟩
    have B16 := Lib.hid (bT B15.out bl16)
    have F16 := Lib.hid (bT F15.out bl16)
    clear bl16 B15 F15 R15
    go_wp2_with fail
    refine (HR.out _ v6 w16 (own_below R12.out F16.out)).mono ?_
    rintro e w17 ⟨rfl, rfl⟩
    go_wp2
    go_ret
    exact ⟨rfl, B16.out⟩

end Go.Proofs.Ytdmfljejlhlbnaa
namespace Go.Proofs.Ytdmfljejlhlbnaa
open Go.RowKit
set_option linter.unusedVariables false

theorem poA_bare {rs rs' : List LSt} (ps : List LPr) (top : Int) (ids ts : List Int) (h : bareS rs = bareS rs') : poA rs ps top ids ts = poA rs' ps top ids ts := by
  have e : PoOK rs ps top ids ts ↔ PoOK rs' ps top ids ts := by
    unfold PoOK
    rw [plF_bare top ids h]
    exact ⟨fun g => ⟨g.1, IdsR_bare ps ids h g.2.1, g.2.2⟩, fun g => ⟨g.1, IdsR_bare ps ids h.symm g.2.1, g.2.2⟩⟩
  unfold poA
  rw [B_iff e, plF_bare top ids h]
theorem poA_le (rs : List LSt) (ps : List LPr) (top : Int) (ids ts : List Int) : (poA rs ps top ids ts).length ≤ 400 := by
  unfold poA
  split
  · rename_i h
    have := (B_true h).1
    simpa [poP] using this
  · simp
theorem RowZ.kept {w w' : World} {g : Nat} {zs : List Int} (h : RowZ w g zs) (e : w'.heap[g]? = w.heap[g]?) : RowZ w' g zs := e.trans h
theorem mkZ_any (b : Nat) (zs : List Int) (k : Int) (hn : zs.length ≤ 1048576) (k0 : 0 ≤ k) (k1 : k ≤ 1000000000) (w : World) (h : RowZ w b zs) :
    Calls Try.prog 50 #[.slice (some ⟨b, 0, none⟩) zs.length zs.length, .int .i64 k] w fun e w' => e = .returned (.int .i64 (k + (zs.length : Int))) ∧ Only b w w' :=
  (mark_some b zs.length zs.length zs.length k hn (Nat.le_refl _) k0 k1 w ⟨vsOf zs zs.length, h, vs_size zs _ (Nat.le_refl _), fun j hj => absurd hj (Nat.not_lt_zero _)⟩).mono fun e w' ⟨a, _, c⟩ => ⟨a, c⟩

set_option maxRecDepth 100000 in
set_option maxHeartbeats 4000000 in
theorem law13 (sl : Option Addr) (cap : Nat) (sl2 : Option Addr) (cap2 : Nat) (sl3 : Option Addr) (cap3 : Nat) (sl4 : Option Addr) (cap4 : Nat) (rs : List LSt) (ps : List LPr) (l3 l4 : List Int) (top : Int) (w : World) (h : InT w sl sl2 rs ps) (hl3 : l3.length ≤ maxLen) (h3 : Ints w sl3 l3) (hl4 : l4.length ≤ maxLen) (h4 : Ints w sl4 l4) :
    Calls Try.prog 13 #[TV sl rs.length cap sl2 ps.length cap2, .int .i64 top, .slice sl3 l3.length cap3, .slice sl4 l4.length cap4] w fun e w' => e = .returned (.bool true) ∧ Below w.heap.size w w' := by
  have hm3 := hl3
  have hm4 := hl4
  unfold maxLen at hm3 hm4
  by_cases hz3 : 1048576 < l3.length
  · have hz3' : (1048576 : Int) < (l3.length : Int) := by omega
    clear h h3 h4
    generalize rs.length = n at *
    generalize ps.length = m at *
    generalize l3.length = q at *
    generalize l4.length = q4 at *
    go_enter Try.func13, Try.ntmps13
    go_wp2
    go_ret
    exact ⟨rfl, bA0 _ _⟩
  have hz3' : ¬ (1048576 : Int) < (l3.length : Int) := by omega
  by_cases hz4 : 1048576 < l4.length
  · have hz4' : (1048576 : Int) < (l4.length : Int) := by omega
    clear h h3 h4
    generalize rs.length = n at *
    generalize ps.length = m at *
    generalize l3.length = q at *
    generalize l4.length = q4 at *
    go_enter Try.func13, Try.ntmps13
    go_wp2
    go_ret
    exact ⟨rfl, bA0 _ _⟩
  have hz4' : ¬ (1048576 : Int) < (l4.length : Int) := by omega
  have hz3 : l3.length ≤ 1048576 := by omega
  have hz4 : l4.length ≤ 1048576 := by omega
  have SZ : Hid (∀ W, Below w.heap.size w W → Calls Try.prog 36 #[TV sl rs.length cap sl2 ps.length cap2, .int .i64 1048576] W fun e w' => e = .returned (.int .i64 (lft 1048576 (rs.length + totD rs + ps.length))) ∧ Below W.heap.size W w') := fun W hW => szTab_any sl cap sl2 _ cap2 rs W h.ln h.lp (h.st.below hW)
  rcases lft_cases 1048576 (rs.length + totD rs + ps.length) (by omega) with ⟨e, hl⟩ | ⟨e, hl⟩
  · rw [e] at SZ
    clear h h3 h4 e hl
    generalize rs.length = n at *
    generalize ps.length = m at *
    generalize l3.length = q at *
    generalize l4.length = q4 at *
    go_enter Try.func13, Try.ntmps13
    go_wp2_with fail
    refine (SZ.out _ (bA0 _ _)).mono ?_
    rintro e w1 ⟨rfl, b1⟩
    have D1 := Lib.hid (bT (bA0 w _) b1)
    clear b1
    go_wp2
    go_ret
    exact ⟨rfl, D1.out⟩
  · rw [e] at SZ
    have hs : Sts w sl rs := h.st.small (by omega)
    have TO : Hid (∀ W, Below w.heap.size w W → Calls Try.prog 38 #[TV sl rs.length cap sl2 ps.length cap2] W fun e w' => ∃ b1 b2 rs', e = .returned (TV (some ⟨b1, 0, none⟩) rs.length rs.length (some ⟨b2, 0, none⟩) ps.length ps.length) ∧ bareS rs' = bareS rs ∧ OwnT W.heap.size w' b1 b2 rs' ps ∧ Below W.heap.size W w') := fun W hW => toTO_any sl cap sl2 cap2 rs ps W (by omega) (by omega) (hs.below hW) (h.pr.below hW)
    have TP : Hid (∀ W, Below w.heap.size w W → Calls Try.prog 46 #[.slice sl3 l3.length cap3] W fun e w' => e = .returned (.slice (some ⟨W.heap.size, 0, none⟩) l3.length l3.length) ∧ RowZ w' W.heap.size l3 ∧ Below W.heap.size W w') := fun W hW => toO_any sl3 cap3 l3 W hz3 (h3.below hW)
    have TQ : Hid (∀ W, Below w.heap.size w W → Calls Try.prog 46 #[.slice sl4 l4.length cap4] W fun e w' => e = .returned (.slice (some ⟨W.heap.size, 0, none⟩) l4.length l4.length) ∧ RowZ w' W.heap.size l4 ∧ Below W.heap.size W w') := fun W hW => toO_any sl4 cap4 l4 W hz4 (h4.below hW)
    have hzl : (poA rs ps top l3 l4).length ≤ 1048576 := Nat.le_trans (poA_le rs ps top l3 l4) (by omega)
    have SP : Hid (∀ b1 b2 rs' c d W, bareS rs' = bareS rs → Sts W (some ⟨b1, 0, none⟩) rs' → Prs W (some ⟨b2, 0, none⟩) ps → RowZ W c l3 → RowZ W d l4 → Calls Try.prog 62 #[TV (some ⟨b1, 0, none⟩) rs.length rs.length (some ⟨b2, 0, none⟩) ps.length ps.length, .int .i64 top, .slice (some ⟨c, 0, none⟩) l3.length l3.length, .slice (some ⟨d, 0, none⟩) l4.length l4.length] W fun e w' => ∃ v, e = .returned v ∧ w'.ownsRow W.heap.size 34 2 v (poA rs ps top l3 l4).length (enCells (poA rs ps top l3 l4)) ∧ Below W.heap.size W w') := fun b1 b2 rs' c d W eb s p r r4 => by
      have hl' := bareS_len eb
      have := spo_any (some ⟨b1, 0, none⟩) rs.length (some ⟨b2, 0, none⟩) ps.length (some ⟨c, 0, none⟩) l3.length (some ⟨d, 0, none⟩) l4.length rs' ps l3 l4 top W (by omega) hz3 hz4 s p r.ints r4.ints
      rwa [hl', poA_bare ps top l3 l4 eb] at this
    have IM : Hid (∀ b1 b2 rs' c d W, bareS rs' = bareS rs → Sts W (some ⟨b1, 0, none⟩) rs' → Prs W (some ⟨b2, 0, none⟩) ps → RowZ W c l3 → RowZ W d l4 → Calls Try.prog 32 #[TV (some ⟨b1, 0, none⟩) rs.length rs.length (some ⟨b2, 0, none⟩) ps.length ps.length, .int .i64 top, .slice (some ⟨c, 0, none⟩) l3.length l3.length, .slice (some ⟨d, 0, none⟩) l4.length l4.length] W fun e w' => ∃ v, e = .returned v ∧ w'.ownsRow W.heap.size 34 2 v (poA rs ps top l3 l4).length (enCells (poA rs ps top l3 l4)) ∧ Below W.heap.size W w') := fun b1 b2 rs' c d W eb s p r r4 => by
      have hl' := bareS_len eb
      have := ipo_any (some ⟨b1, 0, none⟩) rs.length (some ⟨b2, 0, none⟩) ps.length (some ⟨c, 0, none⟩) l3.length (some ⟨d, 0, none⟩) l4.length rs' ps l3 l4 top W (by omega) hl3 hl4 s p h.wf r.ints r4.ints
      rwa [hl', poA_bare ps top l3 l4 eb] at this
    have TE : Hid (∀ b1 b2 rs1 c1 c2 rs2 W, bareS rs1 = bareS rs → bareS rs2 = bareS rs → Sts W (some ⟨b1, 0, none⟩) rs1 → Prs W (some ⟨b2, 0, none⟩) ps → Sts W (some ⟨c1, 0, none⟩) rs2 → Prs W (some ⟨c2, 0, none⟩) ps → Calls Try.prog 41 #[TV (some ⟨b1, 0, none⟩) rs.length rs.length (some ⟨b2, 0, none⟩) ps.length ps.length, TV (some ⟨c1, 0, none⟩) rs.length rs.length (some ⟨c2, 0, none⟩) ps.length ps.length] W fun e w' => e = .returned (.bool true) ∧ Below W.heap.size W w') := fun b1 b2 rs1 c1 c2 rs2 W e1 e2 s1 p1 s2 p2 => by
      have := eqT_any (some ⟨b1, 0, none⟩) (some ⟨c1, 0, none⟩) rs.length rs.length (some ⟨b2, 0, none⟩) (some ⟨c2, 0, none⟩) ps.length ps.length rs1 rs2 ps W (by rw [bareS_len e1]; omega) (by omega) (e1.trans e2.symm) s1 s2 p1 p2
      rwa [bareS_len e1, bareS_len e2] at this
    have TE2 : Hid (∀ b c W, RowZ W b l3 → RowZ W c l3 → Calls Try.prog 49 #[.slice (some ⟨b, 0, none⟩) l3.length l3.length, .slice (some ⟨c, 0, none⟩) l3.length l3.length] W fun e w' => e = .returned (.bool true) ∧ Below W.heap.size W w') := fun b c W r1 r2 => eq_any _ _ _ _ l3 W hl3 r1.ints r2.ints
    have TE3 : Hid (∀ b c W, RowZ W b l4 → RowZ W c l4 → Calls Try.prog 49 #[.slice (some ⟨b, 0, none⟩) l4.length l4.length, .slice (some ⟨c, 0, none⟩) l4.length l4.length] W fun e w' => e = .returned (.bool true) ∧ Below W.heap.size W w') := fun b c W r1 r2 => eq_any _ _ _ _ l4 W hl4 r1.ints r2.ints
    have MP : Hid (∀ b k W, 0 ≤ k → k ≤ 4000000 → RowZ W b l3 → Calls Try.prog 50 #[.slice (some ⟨b, 0, none⟩) l3.length l3.length, .int .i64 k] W fun e w' => e = .returned (.int .i64 (k + (l3.length : Int))) ∧ Only b W w') := fun b k W k0 k1 r => mkZ_any b l3 k hz3 k0 (by omega) W r
    have MQ : Hid (∀ b k W, 0 ≤ k → k ≤ 8000000 → RowZ W b l4 → Calls Try.prog 50 #[.slice (some ⟨b, 0, none⟩) l4.length l4.length, .int .i64 k] W fun e w' => e = .returned (.int .i64 (k + (l4.length : Int))) ∧ Only b W w') := fun b k W k0 k1 r => mkZ_any b l4 k hz4 k0 (by omega) W r
    have MT : Hid (∀ C b1 b2 rs' w0 W, bareS rs' = bareS rs → OwnT C w0 b1 b2 rs' ps → Below w0.heap.size w0 W → Calls Try.prog 42 #[TV (some ⟨b1, 0, none⟩) rs.length rs.length (some ⟨b2, 0, none⟩) ps.length ps.length, .int .i64 1] W fun e w' => ∃ k : Int, (0 ≤ k ∧ k ≤ 4000000) ∧ e = .returned (.int .i64 k) ∧ Btw C w0.heap.size W w') := fun C b1 b2 rs' w0 W eb o hb => by
      have o' := o.below hb
      have st := o.stM.below hb
      have hl' := bareS_len eb
      have ht : totD rs' = totD rs := by
        have := congrArg (List.map fun r : Int × Int × List Int => r.2.2.length) eb
        unfold totD
        simpa [bareS, Function.comp_def] using congrArg List.sum this
      have := mkT_any C w0.heap.size b1 b2 rs' ps.length (by rw [hl', ht]; omega) W st ⟨_, o'.r2.choose_spec.1, o'.r2.choose_spec.2.1⟩ o.lo2 o.r2.lt hb.size
      rwa [hl'] at this
    have hneg : ¬ ((1048576 : Int) - ((rs.length + totD rs + ps.length : Nat) : Int)) < 0 := by omega
    clear h hs e hl h3 h4
    generalize (1048576 : Int) - ((rs.length + totD rs + ps.length : Nat) : Int) = z at *
    generalize rs.length = n at *
    generalize ps.length = m at *
    generalize poA rs ps top l3 l4 = zs at *
    have EQ : Hid (∀ C C' v v' W, World.ownsRow W C 34 2 v zs.length (enCells zs) → World.ownsRow W C' 34 2 v' zs.length (enCells zs) → Calls Try.prog 40 #[v, v'] W fun e w' => e = .returned (.bool true) ∧ Below W.heap.size W w') := fun C C' v v' W o o' => by
      obtain ⟨s1, k1, rfl, i1⟩ := own_pls o
      obtain ⟨s2, k2, rfl, i2⟩ := own_pls o'
      exact eqPlS_any s1 s2 k1 k2 zs W hzl (pls_of i1) (pls_of i2)
    have MR : Hid (∀ C v W, World.ownsRow W C 34 2 v zs.length (enCells zs) → Calls Try.prog 43 #[v, .int .i64 1] W fun e w' => e = .returned (.int .i64 (1 + 2 * (zs.length : Int))) ∧ w'.ownsRow C 34 2 v zs.length (valsZ (marks 1 (zs.length * 2))) ∧ W.grownBy w' v.ownBlock) := fun C v W o => mark2_row C v zs.length _ 1 hzl (by omega) (by omega) W o
    have HR : Hid (∀ C v W, World.ownsRow W C 34 2 v zs.length (valsZ (marks 1 (zs.length * 2))) → Calls Try.prog 44 #[v, .int .i64 1] W fun e w' => e = .returned (.int .i64 (1 + 2 * (zs.length : Int))) ∧ w' = W) := fun C v W o => held2_row C v zs.length 1 hzl (by omega) (by omega) W o
    generalize valsZ (marks 1 (zs.length * 2)) = ms at *
    generalize enCells zs = xs at *
    generalize zs.length = q at *
    generalize l3.length = u at *
    generalize l4.length = u4 at *
    have HT := Lib.hid (show (w.alloc (.cells #[.slice sl n cap, .slice sl2 m cap2] 59)).heap[w.heap.size]? = some (.cells #[.slice sl n cap, .slice sl2 m cap2] 59) from new_at _ _)
    have B0 := Lib.hid (bA0 w (.cells #[.slice sl n cap, .slice sl2 m cap2] 59))
    have hw0 : (w.alloc (.cells #[.slice sl n cap, .slice sl2 m cap2] 59)).heap.size = w.heap.size + 1 := by simp
    have KT : Hid (∀ W, Below (w.heap.size + 1) (w.alloc (.cells #[.slice sl n cap, .slice sl2 m cap2] 59)) W → w.heap.size < W.heap.size ∧ W.cell? ⟨w.heap.size, 0, none⟩ = some (.slice sl n cap) ∧ W.cell? ⟨w.heap.size, 1, none⟩ = some (.slice sl2 m cap2)) := fun W hW => by
      have := (hW.block w.heap.size (by omega)).trans HT.out
      exact ⟨(Array.getElem?_eq_some_iff.1 this).1, by simp [World.cell?, this], by simp [World.cell?, this]⟩
    go_enter Try.func13, Try.ntmps13
    go_wp2_with fail
    refine (SZ.out _ (bA0 _ _)).mono ?_
    rintro e w1 ⟨rfl, b1⟩
    generalize w.alloc (.cells #[.slice sl n cap, .slice sl2 m cap2] 59) = wA at *
    have A1 : Hid (Below (w.heap.size + 1) wA w1) := by rw [← hw0]; exact b1
    have D1 := Lib.hid (bT B0.out b1)
    clear b1 SZ
    obtain ⟨tl, t0, t1⟩ := KT.out _ A1.out
    have hs1 := A1.out.size
    go_wp2_with fail
    refine (TO.out _ D1.out).mono ?_
    rintro e w2 ⟨b1, b2, rs1, rfl, e1, o1, bl2⟩
    have D2 := Lib.hid (bT D1.out bl2)
    have A2 := Lib.hid (A1.out.trans (bl2.mono (by omega)))
    have O2 := Lib.hid o1
    have E1 := Lib.hid e1
    have hs2 := A2.out.size
    clear e1 o1 bl2 A1 D1 t0 t1 tl
    go_wp2_with fail
    refine (TP.out _ D2.out).mono ?_
    rintro e w2a ⟨rfl, r2a, bl2a⟩
    have D2a := Lib.hid (bT D2.out bl2a)
    have A2a := Lib.hid (A2.out.trans (bl2a.mono (by omega)))
    have O2a := Lib.hid (O2.out.below bl2a)
    have R2a := Lib.hid r2a
    have hs2a := A2a.out.size
    clear r2a bl2a O2 A2 D2
    go_wp2_with fail
    refine (TQ.out _ D2a.out).mono ?_
    rintro e w2b ⟨rfl, r2, bl2⟩
    have D2b := Lib.hid (bT D2a.out bl2)
    have A2b := Lib.hid (A2a.out.trans (bl2.mono (by omega)))
    have T2 := Lib.hid (SP.out b1 b2 rs1 _ _ w2b E1.out (O2a.out.below bl2).sts (O2a.out.below bl2).prs (R2a.out.below bl2) r2)
    have hs2b := A2b.out.size
    clear r2 bl2 O2a E1 A2a D2a R2a
    go_wp2_with fail
    refine T2.out.mono ?_
    rintro e w3 ⟨v0, rfl, q3, bl3⟩
    have D3 := Lib.hid (bT D2b.out bl3)
    have A3 := Lib.hid (A2b.out.trans (bl3.mono (by omega)))
    have V3 := Lib.hid q3
    have L3 := Lib.hid (fun j hj => (q3.lt j hj).2)
    have D3s := Lib.hid D3.out.size
    clear bl3 T2 A2b D2b q3
    obtain ⟨tl, t0, t1⟩ := KT.out _ A3.out
    have hs3 := A3.out.size
    go_wp2_with fail
    refine (TO.out _ D3.out).mono ?_
    rintro e w4 ⟨c1, c2, rs2, rfl, e2, o2, bl4⟩
    have D4 := Lib.hid (bT D3.out bl4)
    have A4 := Lib.hid (A3.out.trans (bl4.mono (by omega)))
    have E2 := Lib.hid e2
    have O4 := Lib.hid o2
    have V4 := Lib.hid (own_below V3.out bl4)
    have hs4 := A4.out.size
    have hs34 := bl4.size
    have X5 := Lib.hid (TabAt.new w4 (some ⟨c1, 0, none⟩) n n (some ⟨c2, 0, none⟩) m m)
    have F5 := Lib.hid (bA0 w4 (.cells #[.slice (some ⟨c1, 0, none⟩) n n, .slice (some ⟨c2, 0, none⟩) m m] 26))
    have D5 := Lib.hid (bA D4.out (.cells #[.slice (some ⟨c1, 0, none⟩) n n, .slice (some ⟨c2, 0, none⟩) m m] 26))
    clear e2 o2 bl4 A3 D3 t0 t1 tl V3
    have hw5 : w4.heap.size < (w4.alloc (.cells #[.slice (some ⟨c1, 0, none⟩) n n, .slice (some ⟨c2, 0, none⟩) m m] 26)).heap.size := by simp
    go_wp2_with fail
    generalize w4.alloc (.cells #[.slice (some ⟨c1, 0, none⟩) n n, .slice (some ⟨c2, 0, none⟩) m m] 26) = w5 at *
    refine (TP.out _ D5.out).mono ?_
    rintro e w5a ⟨rfl, r5a, bl5a⟩
    have F5a := Lib.hid (bT F5.out bl5a)
    have X5a := Lib.hid (X5.out.below bl5a)
    have D5a := Lib.hid (bT D5.out bl5a)
    have R5a := Lib.hid r5a
    have hs5a := R5a.out.lt
    clear r5a bl5a F5 X5 D5
    go_wp2_with fail
    refine (TQ.out _ D5a.out).mono ?_
    rintro e w5b ⟨rfl, r5, bl5⟩
    have F5b := Lib.hid (bT F5a.out bl5)
    have X5b := Lib.hid (X5a.out.below bl5)
    have R5b := Lib.hid (R5a.out.below bl5)
    have Q5b := Lib.hid r5
    have hs5b := Q5b.out.lt
    have F6 := Lib.hid (IM.out c1 c2 rs2 _ _ w5b E2.out (O4.out.below F5b.out).sts (O4.out.below F5b.out).prs R5b.out r5)
    clear r5 bl5 F5a X5a D5a R5a
    obtain ⟨x0, x1⟩ := X5b.out.cells
    have xl := X5b.out.lt
    go_wp2_with fail
    refine F6.out.mono ?_
    rintro e w6 ⟨v6, rfl, q6, bl6⟩
    have hs6 := bl6.size
    have G6 := Lib.hid (bT F5b.out bl6)
    have D6 := Lib.hid (bT D4.out G6.out)
    have A6 := Lib.hid (A4.out.trans (G6.out.mono (by omega)))
    have V6 := Lib.hid (own_below V4.out G6.out)
    have X6 := Lib.hid (X5b.out.below bl6)
    have P6 := Lib.hid (R5b.out.below bl6)
    have Q6 := Lib.hid (Q5b.out.below bl6)
    have R6 := Lib.hid q6
    have L6 := Lib.hid (fun j hj => q6.lt j hj)
    clear q6 bl6 F5b F6 X5b V4 D4 A4 R5b Q5b x0 x1 xl
    have E7 := Lib.hid (EQ.out _ _ v6 v0 w6 R6.out V6.out)
    go_wp2_with fail
    refine E7.out.mono ?_
    rintro e w7 ⟨rfl, bl7⟩
    have G7 := Lib.hid (bT G6.out bl7)
    have D7 := Lib.hid (bT D6.out bl7)
    have A7 := Lib.hid (A6.out.trans (bl7.mono (by omega)))
    have V7 := Lib.hid (own_below V6.out bl7)
    have R7 := Lib.hid (own_below R6.out bl7)
    have X7 := Lib.hid (X6.out.below bl7)
    have P7 := Lib.hid (P6.out.below bl7)
    have Q7 := Lib.hid (Q6.out.below bl7)
    have hs7 := bl7.size
    clear bl7 G6 D6 A6 V6 R6 X6 E7 P6 Q6
    have KX : Hid (∀ W, Below w7.heap.size w7 W → w.heap.size < W.heap.size ∧ w4.heap.size < W.heap.size ∧ W.cell? ⟨w.heap.size, 0, none⟩ = some (.slice sl n cap) ∧ W.cell? ⟨w.heap.size, 1, none⟩ = some (.slice sl2 m cap2) ∧ W.cell? ⟨w4.heap.size, 0, none⟩ = some (.slice (some ⟨c1, 0, none⟩) n n) ∧ W.cell? ⟨w4.heap.size, 1, none⟩ = some (.slice (some ⟨c2, 0, none⟩) m m)) := fun W hW => by
      obtain ⟨k1, k2, k3⟩ := KT.out W (A7.out.trans (hW.mono (by omega)))
      obtain ⟨k4, k5⟩ := (X7.out.below hW).cells
      exact ⟨k1, (X7.out.below hW).lt, k2, k3, k4, k5⟩
    go_wp2_with fail
    refine wp_region_held_drew (S := fun W => w.heap.size < W.heap.size ∧ w4.heap.size < W.heap.size ∧ W.cell? ⟨w.heap.size, 0, none⟩ = some (.slice sl n cap) ∧ W.cell? ⟨w.heap.size, 1, none⟩ = some (.slice sl2 m cap2) ∧ W.cell? ⟨w4.heap.size, 0, none⟩ = some (.slice (some ⟨c1, 0, none⟩) n n) ∧ W.cell? ⟨w4.heap.size, 1, none⟩ = some (.slice (some ⟨c2, 0, none⟩) m m)) (by kernel_rfl) ?_ (fun hHeld => ?_)
    · exact KX.out _ (Below.refl _ _).drew
    refine wpAnyH_take (i := 0) (oi := _) (v := ?_) rfl (by kernel_rfl) (by kernel_rfl) (by kernel_rfl) (fun _ _ _ h => h) (Or.inl ⟨by rfl, ?_⟩) (by assumption) ?_
    rotate_left
    · first | (intro w hSw; (try dsimp only at hSw); go_simp; done) | (intro w hSw; (try dsimp only at hSw); go_simp; with_reducible rfl)
    try simp only [Act.put, List.setIfInBounds_toArray, List.set_cons_zero, List.set_cons_succ, List.getElem_toArray, List.getElem_cons_zero]
    refine wpAnyH_take (i := 1) (oi := _) (v := ?_) rfl (by kernel_rfl) (by kernel_rfl) (by kernel_rfl) (fun _ _ _ h => h) (Or.inl ⟨by rfl, ?_⟩) (by assumption) ?_
    rotate_left
    · first | (intro w hSw; (try dsimp only at hSw); go_simp; done) | (intro w hSw; (try dsimp only at hSw); go_simp; with_reducible rfl)
    try simp only [Act.put, List.setIfInBounds_toArray, List.set_cons_zero, List.set_cons_succ, List.getElem_toArray, List.getElem_cons_succ, List.getElem_cons_zero]
    refine wpAnyH_ready (rs := [2]) (by kernel_rfl) (by simp) ?_
    refine AllReadyH.cons rfl (fun K hK => ?_) AllReadyH.nil
    go_simp
    go_wp2_with (go_at_call 38; refine (TO.out _ D7.out.drew).mono ?_; rintro e w8 ⟨d1, d2, rs3, rfl, e3, o3, bl8⟩)
    have D8 : Hid (Below w7.heap.size w7 w8) := bT ((Below.refl w7.heap.size w7).drew) bl8
    have O8 := Lib.hid o3
    have E8 := Lib.hid e3
    clear bl8 o3 e3
    refine hK.out _ _ ?_ (fun hHeld => ?_)
    · exact KX.out _ D8.out
    clear hK K
    refine wpAnyH_ready (rs := [3]) (by kernel_rfl) (by simp) ?_
    refine AllReadyH.cons rfl (fun K hK => ?_) AllReadyH.nil
    go_simp
    go_wp2_with (go_at_call 41; refine (TE.out c1 c2 rs2 d1 d2 rs3 _ E2.out E8.out ((O4.out.below G7.out).below D8.out).sts ((O4.out.below G7.out).below D8.out).prs O8.out.sts O8.out.prs).mono ?_; rintro e w9 ⟨rfl, bl9⟩)
    have D9 : Hid (Below w7.heap.size w7 w9) := bT D8.out bl9
    clear bl9
    refine hK.out _ _ ?_ (fun hHeld => ?_)
    · exact KX.out _ D9.out
    clear hK K
    refine wpAnyH_take (i := 4) (oi := _) (v := ?_) rfl (by kernel_rfl) (by kernel_rfl) (by kernel_rfl) (fun _ _ _ h => h) (Or.inl ⟨by rfl, ?_⟩) (by assumption) ?_
    rotate_left
    · first | (intro w hSw; (try dsimp only at hSw); go_simp; done) | (intro w hSw; (try dsimp only at hSw); go_simp; with_reducible rfl)
    try simp only [Act.put, List.setIfInBounds_toArray, List.set_cons_zero, List.set_cons_succ, List.getElem_toArray, List.getElem_cons_succ, List.getElem_cons_zero]
    refine wpAnyH_done (by kernel_rfl) ?_ _
    have G9 := Lib.hid (bT G7.out D9.out)
    have B9 := Lib.hid (bT D7.out D9.out)
    have A9 := Lib.hid (A7.out.trans (D9.out.mono (by omega)))
    have V9 := Lib.hid (own_below V7.out D9.out)
    have R9 := Lib.hid (own_below R7.out D9.out)
    have X9 := Lib.hid (X7.out.below D9.out)
    have P9 := Lib.hid (P7.out.below D9.out)
    have Q9 := Lib.hid (Q7.out.below D9.out)
    have hs9 := D9.out.size
    clear D9 D8 KX O8 E8 TE G7 D7 A7 V7 R7 X7 P7 Q7
    go_wp2_with fail
    refine (TP.out _ B9.out).mono ?_
    rintro e w9b ⟨rfl, r9, bl9⟩
    have T9 := Lib.hid (TE2.out _ _ w9b (P9.out.below bl9) r9)
    have F9 := Lib.hid bl9
    clear r9 bl9
    go_wp2_with fail
    refine T9.out.mono ?_
    rintro e w9c ⟨rfl, bl9⟩
    have F9c := Lib.hid (bT F9.out bl9)
    have G9c := Lib.hid (bT G9.out F9c.out)
    have B9c := Lib.hid (bT B9.out F9c.out)
    have A9c := Lib.hid (A9.out.trans (F9c.out.mono (by omega)))
    have V9c := Lib.hid (own_below V9.out F9c.out)
    have R9c := Lib.hid (own_below R9.out F9c.out)
    have X9c := Lib.hid (X9.out.below F9c.out)
    have P9c := Lib.hid (P9.out.below F9c.out)
    have Q9c := Lib.hid (Q9.out.below F9c.out)
    have hs9c := F9c.out.size
    clear bl9 F9 F9c T9 G9 B9 A9 V9 R9 X9 P9 Q9
    go_wp2_with fail
    refine (TQ.out _ B9c.out).mono ?_
    rintro e w9d ⟨rfl, r9, bl9⟩
    have T9 := Lib.hid (TE3.out _ _ w9d (Q9c.out.below bl9) r9)
    have F9 := Lib.hid bl9
    clear r9 bl9
    go_wp2_with fail
    refine T9.out.mono ?_
    rintro e w9e ⟨rfl, bl9⟩
    have F9c := Lib.hid (bT F9.out bl9)
    have G9e := Lib.hid (bT G9c.out F9c.out)
    have B9e := Lib.hid (bT B9c.out F9c.out)
    have A9e := Lib.hid (A9c.out.trans (F9c.out.mono (by omega)))
    have V9e := Lib.hid (own_below V9c.out F9c.out)
    have R9e := Lib.hid (own_below R9c.out F9c.out)
    have X9e := Lib.hid (X9c.out.below F9c.out)
    have P9e := Lib.hid (P9c.out.below F9c.out)
    have Q9e := Lib.hid (Q9c.out.below F9c.out)
    have hs9e := F9c.out.size
    clear bl9 F9 F9c T9 G9c B9c A9c V9c R9c X9c P9c Q9c
    have M10 := Lib.hid (MT.out _ c1 c2 rs2 w4 w9e E2.out O4.out G9e.out)
    obtain ⟨x0, x1⟩ := X9e.out.cells
    have xl := X9e.out.lt
    go_wp2_with fail
    refine M10.out.mono ?_
    rintro e w10 ⟨k, ⟨k0, k1⟩, rfl, g10⟩
    have V10 := Lib.hid (own_btw V9e.out g10 (fun j hj => .inl (by have := L3.out j hj; omega)))
    have R10 := Lib.hid (own_btw R9e.out g10 (fun j hj => .inr (by have := (L6.out j hj).1; omega)))
    have P10 : Hid (RowZ w10 w5.heap.size l3) := P9e.out.kept (g10.block w5.heap.size P9e.out.lt (.inr (by omega)))
    have Q10 : Hid (RowZ w10 w5a.heap.size l4) := Q9e.out.kept (g10.block w5a.heap.size Q9e.out.lt (.inr (by omega)))
    have B10 := Lib.hid (B9e.out.trans ((g10.below (by omega)).mono (by have := D3s.out; omega)))
    have A10 := Lib.hid (A9e.out.trans ((g10.below (by omega)).mono (by omega)))
    have hs10 := g10.size
    clear g10 M10 V9e R9e B9e A9e X9e x0 x1 xl MT G9e O4 P9e Q9e
    go_wp2_with fail
    refine (MP.out _ k w10 k0 k1 P10.out).mono ?_
    rintro e w10a ⟨rfl, g10⟩
    have k2 : 0 ≤ k + (u : Int) := by omega
    have k3 : k + (u : Int) ≤ 8000000 := by omega
    have V10a := Lib.hid (own_btw V10.out ((Btw.refl w5.heap.size (w5.heap.size + 1) w10).only g10 (Nat.le_refl _) (Nat.lt_succ_self _)) (fun j hj => .inl (by have := L3.out j hj; omega)))
    have R10a := Lib.hid (own_btw R10.out ((Btw.refl w5.heap.size (w5.heap.size + 1) w10).only g10 (Nat.le_refl _) (Nat.lt_succ_self _)) (fun j hj => .inr (by have := (L6.out j hj).1; omega)))
    have Q10a : Hid (RowZ w10a w5a.heap.size l4) := Q10.out.kept (g10.grownBy.block w5a.heap.size Q10.out.lt (fun e => by have := Option.some.inj e; omega))
    have B10a := Lib.hid (B10.out.grown g10.grownBy (by have := D3s.out; omega) (fun j hj => by cases hj; have := D3s.out; omega))
    have A10a := Lib.hid (A10.out.grown g10.grownBy (by omega) (fun j hj => by cases hj; omega))
    have hs10a := g10.size
    clear g10 V10 R10 B10 A10 P10 MP Q10
    generalize k + (u : Int) = kk at *
    go_wp2_with fail
    refine (MQ.out _ kk w10a k2 k3 Q10a.out).mono ?_
    rintro e w10b ⟨rfl, g10⟩
    have k4 : ¬ (kk + (u4 : Int)) < 0 := by omega
    have V10b := Lib.hid (own_btw V10a.out ((Btw.refl w5a.heap.size (w5a.heap.size + 1) w10a).only g10 (Nat.le_refl _) (Nat.lt_succ_self _)) (fun j hj => .inl (by have := L3.out j hj; omega)))
    have R10b := Lib.hid (own_btw R10a.out ((Btw.refl w5a.heap.size (w5a.heap.size + 1) w10a).only g10 (Nat.le_refl _) (Nat.lt_succ_self _)) (fun j hj => .inr (by have := (L6.out j hj).1; omega)))
    have B10b := Lib.hid (B10a.out.grown g10.grownBy (by have := D3s.out; omega) (fun j hj => by cases hj; have := D3s.out; omega))
    have A10b := Lib.hid (A10a.out.grown g10.grownBy (by omega) (fun j hj => by cases hj; omega))
    have hs10b := g10.size
    clear g10 V10a R10a B10a A10a Q10a MQ k2 k3
    generalize kk + (u4 : Int) = kq at *
    go_wp2_with fail
    refine (EQ.out _ _ v6 v0 w10b R10b.out V10b.out).mono ?_
    rintro e w11 ⟨rfl, bl11⟩
    have B11 := Lib.hid (bT B10b.out bl11)
    have A11 := Lib.hid (A10b.out.trans (bl11.mono (by omega)))
    have V11 := Lib.hid (own_below V10b.out bl11)
    have R11 := Lib.hid (own_below R10b.out bl11)
    have hs11 := bl11.size
    clear bl11 B10b A10b V10b R10b
    go_wp2_with fail
    refine (MR.out _ v6 w11 R11.out).mono ?_
    rintro e w12 ⟨rfl, o12, g12⟩
    have LB : Hid (∀ j, v6.ownBlock = some j → w4.heap.size < j ∧ j < w11.heap.size) := fun j hj => by
      have := L6.out j hj
      omega
    have V12 := Lib.hid (own_btw V11.out ((Btw.refl w4.heap.size w11.heap.size w11).grown g12 (fun j hj => by have := LB.out j hj; omega)) (fun j hj => .inl (by have := L3.out j hj; omega)))
    have B12 := Lib.hid (B11.out.grown g12 (by have := D3s.out; omega) (fun j hj => by have := LB.out j hj; have := D3s.out; omega))
    have A12 := Lib.hid (A11.out.grown g12 (by omega) (fun j hj => by have := LB.out j hj; omega))
    have R12 := Lib.hid o12
    clear o12 g12 V11 B11 A11 R11 MR LB
    go_wp2_with fail
    refine (HR.out _ v6 w12 R12.out).mono ?_
    rintro e w13 ⟨rfl, rfl⟩
    have hq : ¬ (1 + 2 * (q : Int)) < 0 := by omega
    obtain ⟨tl, t0, t1⟩ := KT.out _ A12.out
    go_wp2_with fail
    refine (TO.out _ B12.out).mono ?_
    rintro e w14 ⟨f1, f2, rs4, rfl, e4, o4, bl14⟩
    have F14 := Lib.hid bl14
    have B14 := Lib.hid (bT B12.out bl14)
    have O14 := Lib.hid o4
    have E14 := Lib.hid e4
    clear e4 o4 bl14 tl t0 t1
    go_wp2_with fail
    refine (TP.out _ B14.out).mono ?_
    rintro e w14a ⟨rfl, r14a, bl14a⟩
    have F14a := Lib.hid (bT F14.out bl14a)
    have B14a := Lib.hid (bT B14.out bl14a)
    have O14a := Lib.hid (O14.out.below bl14a)
    have R14a := Lib.hid r14a
    clear r14a bl14a O14 F14 B14
    go_wp2_with fail
    refine (TQ.out _ B14a.out).mono ?_
    rintro e w14b ⟨rfl, r14, bl14⟩
    have F14b := Lib.hid (bT F14a.out bl14)
    have B14b := Lib.hid (bT B14a.out bl14)
    have T15 := Lib.hid (IM.out f1 f2 rs4 _ _ w14b E14.out (O14a.out.below bl14).sts (O14a.out.below bl14).prs (R14a.out.below bl14) r14)
    clear r14 bl14 O14a E14 F14a B14a R14a
    go_wp2_with fail
    refine T15.out.mono ?_
    rintro e w15 ⟨v15, rfl, q15, bl15⟩
    have B15 := Lib.hid (bT B14b.out bl15)
    have F15 := Lib.hid (bT F14b.out bl15)
    have R15 := Lib.hid q15
    clear q15 bl15 F14b B14b T15
    go_wp2_with fail
    refine (EQ.out _ _ v15 v0 w15 R15.out (own_below V12.out F15.out)).mono ?_
    rintro e w16 ⟨rfl, bl16⟩
    have B16 := Lib.hid (bT B15.out bl16)
    have F16 := Lib.hid (bT F15.out bl16)
    clear bl16 B15 F15 R15
    go_wp2_with fail
    refine (HR.out _ v6 w16 (own_below R12.out F16.out)).mono ?_
    rintro e w17 ⟨rfl, rfl⟩
    go_wp2
    go_ret
    exact ⟨rfl, B16.out⟩

end Go.Proofs.Ytdmfljejlhlbnaa
