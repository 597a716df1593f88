/-
  THE LAW 13: the walk.
-/
import Derived.Test.YtdmfljejlhlbnaaVc
import Derived.Test.YtdmfljejlhlbnaaUg
namespace Go.Proofs.Ytdmfljejlhlbnaa
open Go.RowKit
set_option linter.unusedVariables false

theorem poA_bare {rs rs' : List LSt} (ps : List LPr) (top : Int) (ids ts : List Int) (h : bareS rs = bareS rs') : poA rs ps top ids ts = poA rs' ps top ids ts := by
  have e : PoOK rs ps top ids ts ↔ PoOK rs' ps top ids ts := by
    unfold PoOK
    rw [plF_bare top ids h]
    exact ⟨fun g => ⟨g.1, IdsR_bare ps ids h g.2.1, g.2.2⟩, fun g => ⟨g.1, IdsR_bare ps ids h.symm g.2.1, g.2.2⟩⟩
  unfold poA
  rw [B_iff e, plF_bare top ids h]
theorem poA_le (rs : List LSt) (ps : List LPr) (top : Int) (ids ts : List Int) : (poA rs ps top ids ts).length ≤ 400 := by
  unfold poA
  split
  · rename_i h
    have := (B_true h).1
    simpa [poP] using this
  · simp
theorem RowZ.kept {w w' : World} {g : Nat} {zs : List Int} (h : RowZ w g zs) (e : w'.heap[g]? = w.heap[g]?) : RowZ w' g zs := e.trans h
theorem mkZ_any (b : Nat) (zs : List Int) (k : Int) (hn : zs.length ≤ 1048576) (k0 : 0 ≤ k) (k1 : k ≤ 1000000000) (w : World) (h : RowZ w b zs) :
    Calls Try.prog 50 #[.slice (some ⟨b, 0, none⟩) zs.length zs.length, .int .i64 k] w fun e w' => e = .returned (.int .i64 (k + (zs.length : Int))) ∧ Only b w w' :=
  (mark_some b zs.length zs.length zs.length k hn (Nat.le_refl _) k0 k1 w ⟨vsOf zs zs.length, h, vs_size zs _ (Nat.le_refl _), fun j hj => absurd hj (Nat.not_lt_zero _)⟩).mono fun e w' ⟨a, _, c⟩ => ⟨a, c⟩

set_option maxRecDepth 100000 in
set_option maxHeartbeats 4000000 in
theorem law13 (sl : Option Addr) (cap : Nat) (sl2 : Option Addr) (cap2 : Nat) (sl3 : Option Addr) (cap3 : Nat) (sl4 : Option Addr) (cap4 : Nat) (rs : List LSt) (ps : List LPr) (l3 l4 : List Int) (top : Int) (w : World) (h : InT w sl sl2 rs ps) (hl3 : l3.length ≤ maxLen) (h3 : Ints w sl3 l3) (hl4 : l4.length ≤ maxLen) (h4 : Ints w sl4 l4) :
    Calls Try.prog 13 #[TV sl rs.length cap sl2 ps.length cap2, .int .i64 top, .slice sl3 l3.length cap3, .slice sl4 l4.length cap4] w fun e w' => e = .returned (.bool true) ∧ Below w.heap.size w w' := by
  have hm3 := hl3
  have hm4 := hl4
  unfold maxLen at hm3 hm4
  by_cases hz3 : 1048576 < l3.length
  · have hz3' : (1048576 : Int) < (l3.length : Int) := by omega
    clear h h3 h4
    generalize rs.length = n at *
    generalize ps.length = m at *
    generalize l3.length = q at *
    generalize l4.length = q4 at *
    go_enter Try.func13, Try.ntmps13
    go_wp2
    go_ret
    exact ⟨rfl, bA0 _ _⟩
  have hz3' : ¬ (1048576 : Int) < (l3.length : Int) := by omega
  by_cases hz4 : 1048576 < l4.length
  · have hz4' : (1048576 : Int) < (l4.length : Int) := by omega
    clear h h3 h4
    generalize rs.length = n at *
    generalize ps.length = m at *
    generalize l3.length = q at *
    generalize l4.length = q4 at *
    go_enter Try.func13, Try.ntmps13
    go_wp2
    go_ret
    exact ⟨rfl, bA0 _ _⟩
  have hz4' : ¬ (1048576 : Int) < (l4.length : Int) := by omega
  have hz3 : l3.length ≤ 1048576 := by omega
  have hz4 : l4.length ≤ 1048576 := by omega
  have SZ : Hid (∀ W, Below w.heap.size w W → Calls Try.prog 36 #[TV sl rs.length cap sl2 ps.length cap2, .int .i64 1048576] W fun e w' => e = .returned (.int .i64 (lft 1048576 (rs.length + totD rs + ps.length))) ∧ Below W.heap.size W w') := fun W hW => szTab_any sl cap sl2 _ cap2 rs W h.ln h.lp (h.st.below hW)
  rcases lft_cases 1048576 (rs.length + totD rs + ps.length) (by omega) with ⟨e, hl⟩ | ⟨e, hl⟩
  · rw [e] at SZ
    clear h h3 h4 e hl
    generalize rs.length = n at *
    generalize ps.length = m at *
    generalize l3.length = q at *
    generalize l4.length = q4 at *
    go_enter Try.func13, Try.ntmps13
    go_wp2_with fail
    refine (SZ.out _ (bA0 _ _)).mono ?_
    rintro e w1 ⟨rfl, b1⟩
    have D1 := Lib.hid (bT (bA0 w _) b1)
    clear b1
    go_wp2
    go_ret
    exact ⟨rfl, D1.out⟩
  · rw [e] at SZ
    have hs : Sts w sl rs := h.st.small (by omega)
    have TO : Hid (∀ W, Below w.heap.size w W → Calls Try.prog 38 #[TV sl rs.length cap sl2 ps.length cap2] W fun e w' => ∃ b1 b2 rs', e = .returned (TV (some ⟨b1, 0, none⟩) rs.length rs.length (some ⟨b2, 0, none⟩) ps.length ps.length) ∧ bareS rs' = bareS rs ∧ OwnT W.heap.size w' b1 b2 rs' ps ∧ Below W.heap.size W w') := fun W hW => toTO_any sl cap sl2 cap2 rs ps W (by omega) (by omega) (hs.below hW) (h.pr.below hW)
    have TP : Hid (∀ W, Below w.heap.size w W → Calls Try.prog 46 #[.slice sl3 l3.length cap3] W fun e w' => e = .returned (.slice (some ⟨W.heap.size, 0, none⟩) l3.length l3.length) ∧ RowZ w' W.heap.size l3 ∧ Below W.heap.size W w') := fun W hW => toO_any sl3 cap3 l3 W hz3 (h3.below hW)
    have TQ : Hid (∀ W, Below w.heap.size w W → Calls Try.prog 46 #[.slice sl4 l4.length cap4] W fun e w' => e = .returned (.slice (some ⟨W.heap.size, 0, none⟩) l4.length l4.length) ∧ RowZ w' W.heap.size l4 ∧ Below W.heap.size W w') := fun W hW => toO_any sl4 cap4 l4 W hz4 (h4.below hW)
    have hzl : (poA rs ps top l3 l4).length ≤ 1048576 := Nat.le_trans (poA_le rs ps top l3 l4) (by omega)
    have SP : Hid (∀ b1 b2 rs' c d W, bareS rs' = bareS rs → Sts W (some ⟨b1, 0, none⟩) rs' → Prs W (some ⟨b2, 0, none⟩) ps → RowZ W c l3 → RowZ W d l4 → Calls Try.prog 62 #[TV (some ⟨b1, 0, none⟩) rs.length rs.length (some ⟨b2, 0, none⟩) ps.length ps.length, .int .i64 top, .slice (some ⟨c, 0, none⟩) l3.length l3.length, .slice (some ⟨d, 0, none⟩) l4.length l4.length] W fun e w' => ∃ v, e = .returned v ∧ w'.ownsRow W.heap.size 34 2 v (poA rs ps top l3 l4).length (enCells (poA rs ps top l3 l4)) ∧ Below W.heap.size W w') := fun b1 b2 rs' c d W eb s p r r4 => by
      have hl' := bareS_len eb
      have := spo_any (some ⟨b1, 0, none⟩) rs.length (some ⟨b2, 0, none⟩) ps.length (some ⟨c, 0, none⟩) l3.length (some ⟨d, 0, none⟩) l4.length rs' ps l3 l4 top W (by omega) hz3 hz4 s p r.ints r4.ints
      rwa [hl', poA_bare ps top l3 l4 eb] at this
    have IM : Hid (∀ b1 b2 rs' c d W, bareS rs' = bareS rs → Sts W (some ⟨b1, 0, none⟩) rs' → Prs W (some ⟨b2, 0, none⟩) ps → RowZ W c l3 → RowZ W d l4 → Calls Try.prog 32 #[TV (some ⟨b1, 0, none⟩) rs.length rs.length (some ⟨b2, 0, none⟩) ps.length ps.length, .int .i64 top, .slice (some ⟨c, 0, none⟩) l3.length l3.length, .slice (some ⟨d, 0, none⟩) l4.length l4.length] W fun e w' => ∃ v, e = .returned v ∧ w'.ownsRow W.heap.size 34 2 v (poA rs ps top l3 l4).length (enCells (poA rs ps top l3 l4)) ∧ Below W.heap.size W w') := fun b1 b2 rs' c d W eb s p r r4 => by
      have hl' := bareS_len eb
      have := ipo_any (some ⟨b1, 0, none⟩) rs.length (some ⟨b2, 0, none⟩) ps.length (some ⟨c, 0, none⟩) l3.length (some ⟨d, 0, none⟩) l4.length rs' ps l3 l4 top W (by omega) hl3 hl4 s p h.wf r.ints r4.ints
      rwa [hl', poA_bare ps top l3 l4 eb] at this
    have TE : Hid (∀ b1 b2 rs1 c1 c2 rs2 W, bareS rs1 = bareS rs → bareS rs2 = bareS rs → Sts W (some ⟨b1, 0, none⟩) rs1 → Prs W (some ⟨b2, 0, none⟩) ps → Sts W (some ⟨c1, 0, none⟩) rs2 → Prs W (some ⟨c2, 0, none⟩) ps → Calls Try.prog 41 #[TV (some ⟨b1, 0, none⟩) rs.length rs.length (some ⟨b2, 0, none⟩) ps.length ps.length, TV (some ⟨c1, 0, none⟩) rs.length rs.length (some ⟨c2, 0, none⟩) ps.length ps.length] W fun e w' => e = .returned (.bool true) ∧ Below W.heap.size W w') := fun b1 b2 rs1 c1 c2 rs2 W e1 e2 s1 p1 s2 p2 => by
      have := eqT_any (some ⟨b1, 0, none⟩) (some ⟨c1, 0, none⟩) rs.length rs.length (some ⟨b2, 0, none⟩) (some ⟨c2, 0, none⟩) ps.length ps.length rs1 rs2 ps W (by rw [bareS_len e1]; omega) (by omega) (e1.trans e2.symm) s1 s2 p1 p2
      rwa [bareS_len e1, bareS_len e2] at this
    have TE2 : Hid (∀ b c W, RowZ W b l3 → RowZ W c l3 → Calls Try.prog 49 #[.slice (some ⟨b, 0, none⟩) l3.length l3.length, .slice (some ⟨c, 0, none⟩) l3.length l3.length] W fun e w' => e = .returned (.bool true) ∧ Below W.heap.size W w') := fun b c W r1 r2 => eq_any _ _ _ _ l3 W hl3 r1.ints r2.ints
    have TE3 : Hid (∀ b c W, RowZ W b l4 → RowZ W c l4 → Calls Try.prog 49 #[.slice (some ⟨b, 0, none⟩) l4.length l4.length, .slice (some ⟨c, 0, none⟩) l4.length l4.length] W fun e w' => e = .returned (.bool true) ∧ Below W.heap.size W w') := fun b c W r1 r2 => eq_any _ _ _ _ l4 W hl4 r1.ints r2.ints
    have MP : Hid (∀ b k W, 0 ≤ k → k ≤ 4000000 → RowZ W b l3 → Calls Try.prog 50 #[.slice (some ⟨b, 0, none⟩) l3.length l3.length, .int .i64 k] W fun e w' => e = .returned (.int .i64 (k + (l3.length : Int))) ∧ Only b W w') := fun b k W k0 k1 r => mkZ_any b l3 k hz3 k0 (by omega) W r
    have MQ : Hid (∀ b k W, 0 ≤ k → k ≤ 8000000 → RowZ W b l4 → Calls Try.prog 50 #[.slice (some ⟨b, 0, none⟩) l4.length l4.length, .int .i64 k] W fun e w' => e = .returned (.int .i64 (k + (l4.length : Int))) ∧ Only b W w') := fun b k W k0 k1 r => mkZ_any b l4 k hz4 k0 (by omega) W r
    have MT : Hid (∀ C b1 b2 rs' w0 W, bareS rs' = bareS rs → OwnT C w0 b1 b2 rs' ps → Below w0.heap.size w0 W → Calls Try.prog 42 #[TV (some ⟨b1, 0, none⟩) rs.length rs.length (some ⟨b2, 0, none⟩) ps.length ps.length, .int .i64 1] W fun e w' => ∃ k : Int, (0 ≤ k ∧ k ≤ 4000000) ∧ e = .returned (.int .i64 k) ∧ Btw C w0.heap.size W w') := fun C b1 b2 rs' w0 W eb o hb => by
      have o' := o.below hb
      have st := o.stM.below hb
      have hl' := bareS_len eb
      have ht : totD rs' = totD rs := by
        have := congrArg (List.map fun r : Int × Int × List Int => r.2.2.length) eb
        unfold totD
        simpa [bareS, Function.comp_def] using congrArg List.sum this
      have := mkT_any C w0.heap.size b1 b2 rs' ps.length (by rw [hl', ht]; omega) W st ⟨_, o'.r2.choose_spec.1, o'.r2.choose_spec.2.1⟩ o.lo2 o.r2.lt hb.size
      rwa [hl'] at this
    have hneg : ¬ ((1048576 : Int) - ((rs.length + totD rs + ps.length : Nat) : Int)) < 0 := by omega
    clear h hs e hl h3 h4
    generalize (1048576 : Int) - ((rs.length + totD rs + ps.length : Nat) : Int) = z at *
    generalize rs.length = n at *
    generalize ps.length = m at *
    generalize poA rs ps top l3 l4 = zs at *
    have EQ : Hid (∀ C C' v v' W, World.ownsRow W C 34 2 v zs.length (enCells zs) → World.ownsRow W C' 34 2 v' zs.length (enCells zs) → Calls Try.prog 40 #[v, v'] W fun e w' => e = .returned (.bool true) ∧ Below W.heap.size W w') := fun C C' v v' W o o' => by
      obtain ⟨s1, k1, rfl, i1⟩ := own_pls o
      obtain ⟨s2, k2, rfl, i2⟩ := own_pls o'
      exact eqPlS_any s1 s2 k1 k2 zs W hzl (pls_of i1) (pls_of i2)
    have MR : Hid (∀ C v W, World.ownsRow W C 34 2 v zs.length (enCells zs) → Calls Try.prog 43 #[v, .int .i64 1] W fun e w' => e = .returned (.int .i64 (1 + 2 * (zs.length : Int))) ∧ w'.ownsRow C 34 2 v zs.length (valsZ (marks 1 (zs.length * 2))) ∧ W.grownBy w' v.ownBlock) := fun C v W o => mark2_row C v zs.length _ 1 hzl (by omega) (by omega) W o
    have HR : Hid (∀ C v W, World.ownsRow W C 34 2 v zs.length (valsZ (marks 1 (zs.length * 2))) → Calls Try.prog 44 #[v, .int .i64 1] W fun e w' => e = .returned (.int .i64 (1 + 2 * (zs.length : Int))) ∧ w' = W) := fun C v W o => held2_row C v zs.length 1 hzl (by omega) (by omega) W o
    generalize valsZ (marks 1 (zs.length * 2)) = ms at *
    generalize enCells zs = xs at *
    generalize zs.length = q at *
    generalize l3.length = u at *
    generalize l4.length = u4 at *
    have HT := Lib.hid (show (w.alloc (.cells #[.slice sl n cap, .slice sl2 m cap2] 59)).heap[w.heap.size]? = some (.cells #[.slice sl n cap, .slice sl2 m cap2] 59) from new_at _ _)
    have B0 := Lib.hid (bA0 w (.cells #[.slice sl n cap, .slice sl2 m cap2] 59))
    have hw0 : (w.alloc (.cells #[.slice sl n cap, .slice sl2 m cap2] 59)).heap.size = w.heap.size + 1 := by simp
    have KT : Hid (∀ W, Below (w.heap.size + 1) (w.alloc (.cells #[.slice sl n cap, .slice sl2 m cap2] 59)) W → w.heap.size < W.heap.size ∧ W.cell? ⟨w.heap.size, 0, none⟩ = some (.slice sl n cap) ∧ W.cell? ⟨w.heap.size, 1, none⟩ = some (.slice sl2 m cap2)) := fun W hW => by
      have := (hW.block w.heap.size (by omega)).trans HT.out
      exact ⟨(Array.getElem?_eq_some_iff.1 this).1, by simp [World.cell?, this], by simp [World.cell?, this]⟩
    go_enter Try.func13, Try.ntmps13
    go_wp2_with fail
    refine (SZ.out _ (bA0 _ _)).mono ?_
    rintro e w1 ⟨rfl, b1⟩
    generalize w.alloc (.cells #[.slice sl n cap, .slice sl2 m cap2] 59) = wA at *
    have A1 : Hid (Below (w.heap.size + 1) wA w1) := by rw [← hw0]; exact b1
    have D1 := Lib.hid (bT B0.out b1)
    clear b1 SZ
    obtain ⟨tl, t0, t1⟩ := KT.out _ A1.out
    have hs1 := A1.out.size
    go_wp2_with fail
    refine (TO.out _ D1.out).mono ?_
    rintro e w2 ⟨b1, b2, rs1, rfl, e1, o1, bl2⟩
    have D2 := Lib.hid (bT D1.out bl2)
    have A2 := Lib.hid (A1.out.trans (bl2.mono (by omega)))
    have O2 := Lib.hid o1
    have E1 := Lib.hid e1
    have hs2 := A2.out.size
    clear e1 o1 bl2 A1 D1 t0 t1 tl
    go_wp2_with fail
    refine (TP.out _ D2.out).mono ?_
    rintro e w2a ⟨rfl, r2a, bl2a⟩
    have D2a := Lib.hid (bT D2.out bl2a)
    have A2a := Lib.hid (A2.out.trans (bl2a.mono (by omega)))
    have O2a := Lib.hid (O2.out.below bl2a)
    have R2a := Lib.hid r2a
    have hs2a := A2a.out.size
    clear r2a bl2a O2 A2 D2
    go_wp2_with fail
    refine (TQ.out _ D2a.out).mono ?_
    rintro e w2b ⟨rfl, r2, bl2⟩
    have D2b := Lib.hid (bT D2a.out bl2)
    have A2b := Lib.hid (A2a.out.trans (bl2.mono (by omega)))
    have T2 := Lib.hid (SP.out b1 b2 rs1 _ _ w2b E1.out (O2a.out.below bl2).sts (O2a.out.below bl2).prs (R2a.out.below bl2) r2)
    have hs2b := A2b.out.size
    clear r2 bl2 O2a E1 A2a D2a R2a
    go_wp2_with fail
    refine T2.out.mono ?_
    rintro e w3 ⟨v0, rfl, q3, bl3⟩
    have D3 := Lib.hid (bT D2b.out bl3)
    have A3 := Lib.hid (A2b.out.trans (bl3.mono (by omega)))
    have V3 := Lib.hid q3
    have L3 := Lib.hid (fun j hj => (q3.lt j hj).2)
    have D3s := Lib.hid D3.out.size
    clear bl3 T2 A2b D2b q3
    obtain ⟨tl, t0, t1⟩ := KT.out _ A3.out
    have hs3 := A3.out.size
    go_wp2_with fail
    refine (TO.out _ D3.out).mono ?_
    rintro e w4 ⟨c1, c2, rs2, rfl, e2, o2, bl4⟩
    have D4 := Lib.hid (bT D3.out bl4)
    have A4 := Lib.hid (A3.out.trans (bl4.mono (by omega)))
    have E2 := Lib.hid e2
    have O4 := Lib.hid o2
    have V4 := Lib.hid (own_below V3.out bl4)
    have hs4 := A4.out.size
    have hs34 := bl4.size
    have X5 := Lib.hid (TabAt.new w4 (some ⟨c1, 0, none⟩) n n (some ⟨c2, 0, none⟩) m m)
    have F5 := Lib.hid (bA0 w4 (.cells #[.slice (some ⟨c1, 0, none⟩) n n, .slice (some ⟨c2, 0, none⟩) m m] 26))
    have D5 := Lib.hid (bA D4.out (.cells #[.slice (some ⟨c1, 0, none⟩) n n, .slice (some ⟨c2, 0, none⟩) m m] 26))
    clear e2 o2 bl4 A3 D3 t0 t1 tl V3
    have hw5 : w4.heap.size < (w4.alloc (.cells #[.slice (some ⟨c1, 0, none⟩) n n, .slice (some ⟨c2, 0, none⟩) m m] 26)).heap.size := by simp
    go_wp2_with fail
    generalize w4.alloc (.cells #[.slice (some ⟨c1, 0, none⟩) n n, .slice (some ⟨c2, 0, none⟩) m m] 26) = w5 at *
    refine (TP.out _ D5.out).mono ?_
    rintro e w5a ⟨rfl, r5a, bl5a⟩
    have F5a := Lib.hid (bT F5.out bl5a)
    have X5a := Lib.hid (X5.out.below bl5a)
    have D5a := Lib.hid (bT D5.out bl5a)
    have R5a := Lib.hid r5a
    have hs5a := R5a.out.lt
    clear r5a bl5a F5 X5 D5
    go_wp2_with fail
    refine (TQ.out _ D5a.out).mono ?_
    rintro e w5b ⟨rfl, r5, bl5⟩
    have F5b := Lib.hid (bT F5a.out bl5)
    have X5b := Lib.hid (X5a.out.below bl5)
    have R5b := Lib.hid (R5a.out.below bl5)
    have Q5b := Lib.hid r5
    have hs5b := Q5b.out.lt
    have F6 := Lib.hid (IM.out c1 c2 rs2 _ _ w5b E2.out (O4.out.below F5b.out).sts (O4.out.below F5b.out).prs R5b.out r5)
    clear r5 bl5 F5a X5a D5a R5a
    obtain ⟨x0, x1⟩ := X5b.out.cells
    have xl := X5b.out.lt
    go_wp2_with fail
    refine F6.out.mono ?_
    rintro e w6 ⟨v6, rfl, q6, bl6⟩
    have hs6 := bl6.size
    have G6 := Lib.hid (bT F5b.out bl6)
    have D6 := Lib.hid (bT D4.out G6.out)
    have A6 := Lib.hid (A4.out.trans (G6.out.mono (by omega)))
    have V6 := Lib.hid (own_below V4.out G6.out)
    have X6 := Lib.hid (X5b.out.below bl6)
    have P6 := Lib.hid (R5b.out.below bl6)
    have Q6 := Lib.hid (Q5b.out.below bl6)
    have R6 := Lib.hid q6
    have L6 := Lib.hid (fun j hj => q6.lt j hj)
    clear q6 bl6 F5b F6 X5b V4 D4 A4 R5b Q5b x0 x1 xl
    have E7 := Lib.hid (EQ.out _ _ v6 v0 w6 R6.out V6.out)
    go_wp2_with fail
    refine E7.out.mono ?_
    rintro e w7 ⟨rfl, bl7⟩
    have G7 := Lib.hid (bT G6.out bl7)
    have D7 := Lib.hid (bT D6.out bl7)
    have A7 := Lib.hid (A6.out.trans (bl7.mono (by omega)))
    have V7 := Lib.hid (own_below V6.out bl7)
    have R7 := Lib.hid (own_below R6.out bl7)
    have X7 := Lib.hid (X6.out.below bl7)
    have P7 := Lib.hid (P6.out.below bl7)
    have Q7 := Lib.hid (Q6.out.below bl7)
    have hs7 := bl7.size
    clear bl7 G6 D6 A6 V6 R6 X6 E7 P6 Q6
    have KX : Hid (∀ W, Below w7.heap.size w7 W → w.heap.size < W.heap.size ∧ w4.heap.size < W.heap.size ∧ W.cell? ⟨w.heap.size, 0, none⟩ = some (.slice sl n cap) ∧ W.cell? ⟨w.heap.size, 1, none⟩ = some (.slice sl2 m cap2) ∧ W.cell? ⟨w4.heap.size, 0, none⟩ = some (.slice (some ⟨c1, 0, none⟩) n n) ∧ W.cell? ⟨w4.heap.size, 1, none⟩ = some (.slice (some ⟨c2, 0, none⟩) m m)) := fun W hW => by
      obtain ⟨k1, k2, k3⟩ := KT.out W (A7.out.trans (hW.mono (by omega)))
      obtain ⟨k4, k5⟩ := (X7.out.below hW).cells
      exact ⟨k1, (X7.out.below hW).lt, k2, k3, k4, k5⟩
    go_wp2_with fail
    refine wp_region_held_drew (S := fun W => w.heap.size < W.heap.size ∧ w4.heap.size < W.heap.size ∧ W.cell? ⟨w.heap.size, 0, none⟩ = some (.slice sl n cap) ∧ W.cell? ⟨w.heap.size, 1, none⟩ = some (.slice sl2 m cap2) ∧ W.cell? ⟨w4.heap.size, 0, none⟩ = some (.slice (some ⟨c1, 0, none⟩) n n) ∧ W.cell? ⟨w4.heap.size, 1, none⟩ = some (.slice (some ⟨c2, 0, none⟩) m m)) (by kernel_rfl) ?_ (fun hHeld => ?_)
    · exact KX.out _ (Below.refl _ _).drew
    refine wpAnyH_take (i := 0) (oi := _) (v := ?_) rfl (by kernel_rfl) (by kernel_rfl) (by kernel_rfl) (fun _ _ _ h => h) (Or.inl ⟨by rfl, ?_⟩) (by assumption) ?_
    rotate_left
    · first | (intro w hSw; (try dsimp only at hSw); go_simp; done) | (intro w hSw; (try dsimp only at hSw); go_simp; with_reducible rfl)
    try simp only [Act.put, List.setIfInBounds_toArray, List.set_cons_zero, List.set_cons_succ, List.getElem_toArray, List.getElem_cons_zero]
    refine wpAnyH_take (i := 1) (oi := _) (v := ?_) rfl (by kernel_rfl) (by kernel_rfl) (by kernel_rfl) (fun _ _ _ h => h) (Or.inl ⟨by rfl, ?_⟩) (by assumption) ?_
    rotate_left
    · first | (intro w hSw; (try dsimp only at hSw); go_simp; done) | (intro w hSw; (try dsimp only at hSw); go_simp; with_reducible rfl)
    try simp only [Act.put, List.setIfInBounds_toArray, List.set_cons_zero, List.set_cons_succ, List.getElem_toArray, List.getElem_cons_succ, List.getElem_cons_zero]
    refine wpAnyH_ready (rs := [2]) (by kernel_rfl) (by simp) ?_
    refine AllReadyH.cons rfl (fun K hK => ?_) AllReadyH.nil
    go_simp
    go_wp2_with (go_at_call 38; refine (TO.out _ D7.out.drew).mono ?_; rintro e w8 ⟨d1, d2, rs3, rfl, e3, o3, bl8⟩)
    have D8 : Hid (Below w7.heap.size w7 w8) := bT ((Below.refl w7.heap.size w7).drew) bl8
    have O8 := Lib.hid o3
    have E8 := Lib.hid e3
    clear bl8 o3 e3
    refine hK.out _ _ ?_ (fun hHeld => ?_)
    · exact KX.out _ D8.out
    clear hK K
    refine wpAnyH_ready (rs := [3]) (by kernel_rfl) (by simp) ?_
    refine AllReadyH.cons rfl (fun K hK => ?_) AllReadyH.nil
    go_simp
    go_wp2_with (go_at_call 41; refine (TE.out c1 c2 rs2 d1 d2 rs3 _ E2.out E8.out ((O4.out.below G7.out).below D8.out).sts ((O4.out.below G7.out).below D8.out).prs O8.out.sts O8.out.prs).mono ?_; rintro e w9 ⟨rfl, bl9⟩)
    have D9 : Hid (Below w7.heap.size w7 w9) := bT D8.out bl9
    clear bl9
    refine hK.out _ _ ?_ (fun hHeld => ?_)
    · exact KX.out _ D9.out
    clear hK K
    refine wpAnyH_take (i := 4) (oi := _) (v := ?_) rfl (by kernel_rfl) (by kernel_rfl) (by kernel_rfl) (fun _ _ _ h => h) (Or.inl ⟨by rfl, ?_⟩) (by assumption) ?_
    rotate_left
    · first | (intro w hSw; (try dsimp only at hSw); go_simp; done) | (intro w hSw; (try dsimp only at hSw); go_simp; with_reducible rfl)
    try simp only [Act.put, List.setIfInBounds_toArray, List.set_cons_zero, List.set_cons_succ, List.getElem_toArray, List.getElem_cons_succ, List.getElem_cons_zero]
    refine wpAnyH_done (by kernel_rfl) ?_ _
    have G9 := Lib.hid (bT G7.out D9.out)
    have B9 := Lib.hid (bT D7.out D9.out)
    have A9 := Lib.hid (A7.out.trans (D9.out.mono (by omega)))
    have V9 := Lib.hid (own_below V7.out D9.out)
    have R9 := Lib.hid (own_below R7.out D9.out)
    have X9 := Lib.hid (X7.out.below D9.out)
    have P9 := Lib.hid (P7.out.below D9.out)
    have Q9 := Lib.hid (Q7.out.below D9.out)
    have hs9 := D9.out.size
    clear D9 D8 KX O8 E8 TE G7 D7 A7 V7 R7 X7 P7 Q7
    go_wp2_with fail
    refine (TP.out _ B9.out).mono ?_
    rintro e w9b ⟨rfl, r9, bl9⟩
    have T9 := Lib.hid (TE2.out _ _ w9b (P9.out.below bl9) r9)
    have F9 := Lib.hid bl9
    clear r9 bl9
    go_wp2_with fail
    refine T9.out.mono ?_
    rintro e w9c ⟨rfl, bl9⟩
    have F9c := Lib.hid (bT F9.out bl9)
    have G9c := Lib.hid (bT G9.out F9c.out)
    have B9c := Lib.hid (bT B9.out F9c.out)
    have A9c := Lib.hid (A9.out.trans (F9c.out.mono (by omega)))
    have V9c := Lib.hid (own_below V9.out F9c.out)
    have R9c := Lib.hid (own_below R9.out F9c.out)
    have X9c := Lib.hid (X9.out.below F9c.out)
    have P9c := Lib.hid (P9.out.below F9c.out)
    have Q9c := Lib.hid (Q9.out.below F9c.out)
    have hs9c := F9c.out.size
    clear bl9 F9 F9c T9 G9 B9 A9 V9 R9 X9 P9 Q9
    go_wp2_with fail
    refine (TQ.out _ B9c.out).mono ?_
    rintro e w9d ⟨rfl, r9, bl9⟩
    have T9 := Lib.hid (TE3.out _ _ w9d (Q9c.out.below bl9) r9)
    have F9 := Lib.hid bl9
    clear r9 bl9
    go_wp2_with fail
    refine T9.out.mono ?_
    rintro e w9e ⟨rfl, bl9⟩
    have F9c := Lib.hid (bT F9.out bl9)
    have G9e := Lib.hid (bT G9c.out F9c.out)
    have B9e := Lib.hid (bT B9c.out F9c.out)
    have A9e := Lib.hid (A9c.out.trans (F9c.out.mono (by omega)))
    have V9e := Lib.hid (own_below V9c.out F9c.out)
    have R9e := Lib.hid (own_below R9c.out F9c.out)
    have X9e := Lib.hid (X9c.out.below F9c.out)
    have P9e := Lib.hid (P9c.out.below F9c.out)
    have Q9e := Lib.hid (Q9c.out.below F9c.out)
    have hs9e := F9c.out.size
    clear bl9 F9 F9c T9 G9c B9c A9c V9c R9c X9c P9c Q9c
    have M10 := Lib.hid (MT.out _ c1 c2 rs2 w4 w9e E2.out O4.out G9e.out)
    obtain ⟨x0, x1⟩ := X9e.out.cells
    have xl := X9e.out.lt
    go_wp2_with fail
    refine M10.out.mono ?_
    rintro e w10 ⟨k, ⟨k0, k1⟩, rfl, g10⟩
    have V10 := Lib.hid (own_btw V9e.out g10 (fun j hj => .inl (by have := L3.out j hj; omega)))
    have R10 := Lib.hid (own_btw R9e.out g10 (fun j hj => .inr (by have := (L6.out j hj).1; omega)))
    have P10 : Hid (RowZ w10 w5.heap.size l3) := P9e.out.kept (g10.block w5.heap.size P9e.out.lt (.inr (by omega)))
    have Q10 : Hid (RowZ w10 w5a.heap.size l4) := Q9e.out.kept (g10.block w5a.heap.size Q9e.out.lt (.inr (by omega)))
    have B10 := Lib.hid (B9e.out.trans ((g10.below (by omega)).mono (by have := D3s.out; omega)))
    have A10 := Lib.hid (A9e.out.trans ((g10.below (by omega)).mono (by omega)))
    have hs10 := g10.size
    clear g10 M10 V9e R9e B9e A9e X9e x0 x1 xl MT G9e O4 P9e Q9e
    go_wp2_with fail
    refine (MP.out _ k w10 k0 k1 P10.out).mono ?_
    rintro e w10a ⟨rfl, g10⟩
    have k2 : 0 ≤ k + (u : Int) := by omega
    have k3 : k + (u : Int) ≤ 8000000 := by omega
    have V10a := Lib.hid (own_btw V10.out ((Btw.refl w5.heap.size (w5.heap.size + 1) w10).only g10 (Nat.le_refl _) (Nat.lt_succ_self _)) (fun j hj => .inl (by have := L3.out j hj; omega)))
    have R10a := Lib.hid (own_btw R10.out ((Btw.refl w5.heap.size (w5.heap.size + 1) w10).only g10 (Nat.le_refl _) (Nat.lt_succ_self _)) (fun j hj => .inr (by have := (L6.out j hj).1; omega)))
    have Q10a : Hid (RowZ w10a w5a.heap.size l4) := Q10.out.kept (g10.grownBy.block w5a.heap.size Q10.out.lt (fun e => by have := Option.some.inj e; omega))
    have B10a := Lib.hid (B10.out.grown g10.grownBy (by have := D3s.out; omega) (fun j hj => by cases hj; have := D3s.out; omega))
    have A10a := Lib.hid (A10.out.grown g10.grownBy (by omega) (fun j hj => by cases hj; omega))
    have hs10a := g10.size
    clear g10 V10 R10 B10 A10 P10 MP Q10
    generalize k + (u : Int) = kk at *
    go_wp2_with fail
    refine (MQ.out _ kk w10a k2 k3 Q10a.out).mono ?_
    rintro e w10b ⟨rfl, g10⟩
    have k4 : ¬ (kk + (u4 : Int)) < 0 := by omega
    have V10b := Lib.hid (own_btw V10a.out ((Btw.refl w5a.heap.size (w5a.heap.size + 1) w10a).only g10 (Nat.le_refl _) (Nat.lt_succ_self _)) (fun j hj => .inl (by have := L3.out j hj; omega)))
    have R10b := Lib.hid (own_btw R10a.out ((Btw.refl w5a.heap.size (w5a.heap.size + 1) w10a).only g10 (Nat.le_refl _) (Nat.lt_succ_self _)) (fun j hj => .inr (by have := (L6.out j hj).1; omega)))
    have B10b := Lib.hid (B10a.out.grown g10.grownBy (by have := D3s.out; omega) (fun j hj => by cases hj; have := D3s.out; omega))
    have A10b := Lib.hid (A10a.out.grown g10.grownBy (by omega) (fun j hj => by cases hj; omega))
    have hs10b := g10.size
    clear g10 V10a R10a B10a A10a Q10a MQ k2 k3
    generalize kk + (u4 : Int) = kq at *
    go_wp2_with fail
    refine (EQ.out _ _ v6 v0 w10b R10b.out V10b.out).mono ?_
    rintro e w11 ⟨rfl, bl11⟩
    have B11 := Lib.hid (bT B10b.out bl11)
    have A11 := Lib.hid (A10b.out.trans (bl11.mono (by omega)))
    have V11 := Lib.hid (own_below V10b.out bl11)
    have R11 := Lib.hid (own_below R10b.out bl11)
    have hs11 := bl11.size
    clear bl11 B10b A10b V10b R10b
    go_wp2_with fail
    refine (MR.out _ v6 w11 R11.out).mono ?_
    rintro e w12 ⟨rfl, o12, g12⟩
    have LB : Hid (∀ j, v6.ownBlock = some j → w4.heap.size < j ∧ j < w11.heap.size) := fun j hj => by
      have := L6.out j hj
      omega
    have V12 := Lib.hid (own_btw V11.out ((Btw.refl w4.heap.size w11.heap.size w11).grown g12 (fun j hj => by have := LB.out j hj; omega)) (fun j hj => .inl (by have := L3.out j hj; omega)))
    have B12 := Lib.hid (B11.out.grown g12 (by have := D3s.out; omega) (fun j hj => by have := LB.out j hj; have := D3s.out; omega))
    have A12 := Lib.hid (A11.out.grown g12 (by omega) (fun j hj => by have := LB.out j hj; omega))
    have R12 := Lib.hid o12
    clear o12 g12 V11 B11 A11 R11 MR LB
    go_wp2_with fail
    refine (HR.out _ v6 w12 R12.out).mono ?_
    rintro e w13 ⟨rfl, rfl⟩
    have hq : ¬ (1 + 2 * (q : Int)) < 0 := by omega
    obtain ⟨tl, t0, t1⟩ := KT.out _ A12.out
    go_wp2_with fail
    refine (TO.out _ B12.out).mono ?_
    rintro e w14 ⟨f1, f2, rs4, rfl, e4, o4, bl14⟩
    have F14 := Lib.hid bl14
    have B14 := Lib.hid (bT B12.out bl14)
    have O14 := Lib.hid o4
    have E14 := Lib.hid e4
    clear e4 o4 bl14 tl t0 t1
    go_wp2_with fail
    refine (TP.out _ B14.out).mono ?_
    rintro e w14a ⟨rfl, r14a, bl14a⟩
    have F14a := Lib.hid (bT F14.out bl14a)
    have B14a := Lib.hid (bT B14.out bl14a)
    have O14a := Lib.hid (O14.out.below bl14a)
    have R14a := Lib.hid r14a
    clear r14a bl14a O14 F14 B14
    go_wp2_with fail
    refine (TQ.out _ B14a.out).mono ?_
    rintro e w14b ⟨rfl, r14, bl14⟩
    have F14b := Lib.hid (bT F14a.out bl14)
    have B14b := Lib.hid (bT B14a.out bl14)
    have T15 := Lib.hid (IM.out f1 f2 rs4 _ _ w14b E14.out (O14a.out.below bl14).sts (O14a.out.below bl14).prs (R14a.out.below bl14) r14)
    clear r14 bl14 O14a E14 F14a B14a R14a
    go_wp2_with fail
    refine T15.out.mono ?_
    rintro e w15 ⟨v15, rfl, q15, bl15⟩
    have B15 := Lib.hid (bT B14b.out bl15)
    have F15 := Lib.hid (bT F14b.out bl15)
    have R15 := Lib.hid q15
    clear q15 bl15 F14b B14b T15
    go_wp2_with fail
    refine (EQ.out _ _ v15 v0 w15 R15.out (own_below V12.out F15.out)).mono ?_
    rintro e w16 ⟨rfl, bl16⟩
    have B16 := Lib.hid (bT B15.out bl16)
    have F16 := Lib.hid (bT F15.out bl16)
    clear bl16 B15 F15 R15
    go_wp2_with fail
    refine (HR.out _ v6 w16 (own_below R12.out F16.out)).mono ?_
    rintro e w17 ⟨rfl, rfl⟩
    go_wp2
    go_ret
    exact ⟨rfl, B16.out⟩

end Go.Proofs.Ytdmfljejlhlbnaa
