/-
  THE LAW FnExactTableText: the walk.
-/
import Derived.Test.YtcnpdjjfcfkcfaaDoorDd
import Derived.Test.YtcnpdjjfcfkcfaaDoorAq
namespace Go.Proofs.YtcnpdjjfcfkcfaaDoor
open Go.RowKit
set_option linter.unusedVariables false

theorem tabT_bare {rs rs' : List LSt} (ps : List LPr) (h : bareS rs = bareS rs') : tabT rs ps = tabT rs' ps := by
  have e : ∀ l : List LSt, l.flatMap stL = (bareS l).flatMap (fun r => statB r.1 r.2.1 r.2.2 ++ [10]) := fun l => by
    simp only [bareS, List.flatMap_map]
    rfl
  unfold tabT
  rw [BTab ps h, e, e, h]
set_option maxRecDepth 100000 in
set_option maxHeartbeats 2000000 in
theorem law4 (sl : Option Addr) (cap : Nat) (sl2 : Option Addr) (cap2 : Nat) (rs : List LSt) (ps : List LPr) (w : World) (h : InT w sl sl2 rs ps) (ht : PowTab w) :
    Calls Tryd.prog 4 #[TV sl rs.length cap sl2 ps.length cap2] w fun e w' => e = .returned (.bool true) ∧ Below w.heap.size w w' := by
  have SZ : Hid (∀ W, Below w.heap.size w W → Calls Tryd.prog 17 #[TV sl rs.length cap sl2 ps.length cap2, .int .i64 1048576] W fun e w' => e = .returned (.int .i64 (lft 1048576 (rs.length + totD rs + ps.length))) ∧ Below W.heap.size W w') := fun W hW => szTab_any sl cap sl2 _ cap2 rs W h.ln h.lp (h.st.below hW)
  rcases lft_cases 1048576 (rs.length + totD rs + ps.length) (by omega) with ⟨e, hl⟩ | ⟨e, hl⟩
  · rw [e] at SZ
    clear h e hl ht
    generalize rs.length = n at *
    generalize ps.length = m at *
    go_enter Tryd.func4, Tryd.ntmps4
    go_wp2_with fail
    refine (SZ.out _ (bA0 _ _)).mono ?_
    rintro e w1 ⟨rfl, b1⟩
    have D1 := Lib.hid (bT (bA0 w _) b1)
    clear b1
    go_wp2
    go_ret
    exact ⟨rfl, D1.out⟩
  · rw [e] at SZ
    have hs : Sts w sl rs := h.st.small (by omega)
    have TO : Hid (∀ W, Below w.heap.size w W → Calls Tryd.prog 19 #[TV sl rs.length cap sl2 ps.length cap2] W fun e w' => ∃ b1 b2 rs', e = .returned (TV (some ⟨b1, 0, none⟩) rs.length rs.length (some ⟨b2, 0, none⟩) ps.length ps.length) ∧ bareS rs' = bareS rs ∧ Sts w' (some ⟨b1, 0, none⟩) rs' ∧ Prs w' (some ⟨b2, 0, none⟩) ps ∧ Below W.heap.size W w') := fun W hW => toT_any sl cap sl2 cap2 rs ps W (by omega) (by omega) (hs.below hW) (h.pr.below hW)
    have TS : Hid (∀ b1 b2 rs' W, bareS rs' = bareS rs → Sts W (some ⟨b1, 0, none⟩) rs' → Prs W (some ⟨b2, 0, none⟩) ps → Calls Tryd.prog 18 #[TV (some ⟨b1, 0, none⟩) rs.length rs.length (some ⟨b2, 0, none⟩) ps.length ps.length] W fun e w' => e = .returned (.string ⟨(tabT rs ps).toArray⟩) ∧ Below W.heap.size W w') := fun b1 b2 rs' W eb s p => by
      have := stx_any (some ⟨b1, 0, none⟩) rs.length (some ⟨b2, 0, none⟩) ps.length rs' ps W s p
      rwa [bareS_len eb, tabT_bare ps eb] at this
    have TI : Hid (∀ b1 b2 rs' W, Below w.heap.size w W → bareS rs' = bareS rs → Sts W (some ⟨b1, 0, none⟩) rs' → Prs W (some ⟨b2, 0, none⟩) ps → Calls Tryd.prog 20 #[TV (some ⟨b1, 0, none⟩) rs.length rs.length (some ⟨b2, 0, none⟩) ps.length ps.length] W fun e w' => e = .returned (.string ⟨(tabT rs ps).toArray⟩) ∧ Below W.heap.size W w') := fun b1 b2 rs' W hW eb s p => by
      have := itx_any (some ⟨b1, 0, none⟩) rs.length (some ⟨b2, 0, none⟩) ps.length rs' ps W s p h.wf (ht.below hW)
      rwa [bareS_len eb, tabT_bare ps eb] at this
    have TE : Hid (∀ b1 b2 rs1 c1 c2 rs2 W, bareS rs1 = bareS rs → bareS rs2 = bareS rs → Sts W (some ⟨b1, 0, none⟩) rs1 → Prs W (some ⟨b2, 0, none⟩) ps → Sts W (some ⟨c1, 0, none⟩) rs2 → Prs W (some ⟨c2, 0, none⟩) ps → Calls Tryd.prog 21 #[TV (some ⟨b1, 0, none⟩) rs.length rs.length (some ⟨b2, 0, none⟩) ps.length ps.length, TV (some ⟨c1, 0, none⟩) rs.length rs.length (some ⟨c2, 0, none⟩) ps.length ps.length] W fun e w' => e = .returned (.bool true) ∧ Below W.heap.size W w') := fun b1 b2 rs1 c1 c2 rs2 W e1 e2 s1 p1 s2 p2 => by
      have := eqT_any (some ⟨b1, 0, none⟩) (some ⟨c1, 0, none⟩) rs.length rs.length (some ⟨b2, 0, none⟩) (some ⟨c2, 0, none⟩) ps.length ps.length rs1 rs2 ps W (by rw [bareS_len e1]; omega) (by omega) (e1.trans e2.symm) s1 s2 p1 p2
      rwa [bareS_len e1, bareS_len e2] at this
    clear h hs e ht
    have hneg : ¬ ((1048576 : Int) - ((rs.length + totD rs + ps.length : Nat) : Int)) < 0 := by omega
    clear hl
    generalize rs.length + totD rs + ps.length = z at *
    generalize rs.length = n at *
    generalize ps.length = m at *
    generalize (⟨(tabT rs ps).toArray⟩ : ByteArray) = r at *
    have HT := Lib.hid (show (w.alloc (.cells #[.slice sl n cap, .slice sl2 m cap2] 37)).heap[w.heap.size]? = some (.cells #[.slice sl n cap, .slice sl2 m cap2] 37) from new_at _ _)
    have B0 := Lib.hid (bA0 w (.cells #[.slice sl n cap, .slice sl2 m cap2] 37))
    have hw0 : (w.alloc (.cells #[.slice sl n cap, .slice sl2 m cap2] 37)).heap.size = w.heap.size + 1 := by simp
    have KT : Hid (∀ W, Below (w.heap.size + 1) (w.alloc (.cells #[.slice sl n cap, .slice sl2 m cap2] 37)) W → w.heap.size < W.heap.size ∧ W.cell? ⟨w.heap.size, 0, none⟩ = some (.slice sl n cap) ∧ W.cell? ⟨w.heap.size, 1, none⟩ = some (.slice sl2 m cap2)) := fun W hW => by
      have := (hW.block w.heap.size (by omega)).trans HT.out
      exact ⟨(Array.getElem?_eq_some_iff.1 this).1, by simp [World.cell?, this], by simp [World.cell?, this]⟩
    go_enter Tryd.func4, Tryd.ntmps4
    go_wp2_with fail
    refine (SZ.out _ (bA0 _ _)).mono ?_
    rintro e w1 ⟨rfl, b1⟩
    generalize w.alloc (.cells #[.slice sl n cap, .slice sl2 m cap2] 37) = wA at *
    have A1 : Hid (Below (w.heap.size + 1) wA w1) := by rw [← hw0]; exact b1
    have D1 := Lib.hid (bT B0.out b1)
    clear b1 SZ
    obtain ⟨tl, t0, t1⟩ := KT.out _ A1.out
    go_wp2_with fail
    refine (TO.out _ D1.out).mono ?_
    rintro e w2 ⟨b1, b2, rs1, rfl, e1, s1, p1, bl2⟩
    have D2 := Lib.hid (bT D1.out bl2)
    have A2 := Lib.hid (A1.out.trans (bl2.mono (by omega)))
    have T2 := Lib.hid (TS.out b1 b2 rs1 w2 e1 s1 p1)
    clear e1 s1 p1 bl2 A1 t0 t1 tl
    go_wp2_with fail
    refine T2.out.mono ?_
    rintro e w3 ⟨rfl, bl3⟩
    have hs2 := A2.out.size
    have D3 := Lib.hid (bT D2.out bl3)
    have A3 := Lib.hid (A2.out.trans (bl3.mono (by omega)))
    clear bl3 T2 A2 D2
    obtain ⟨tl, t0, t1⟩ := KT.out _ A3.out
    go_wp2_with fail
    refine (TO.out _ D3.out).mono ?_
    rintro e w4 ⟨b1', b2', rs2, rfl, e2, s2, p2, bl4⟩
    have hs3 := A3.out.size
    have D4 := Lib.hid (bT D3.out bl4)
    have A4 := Lib.hid (A3.out.trans (bl4.mono (by omega)))
    have E2 := Lib.hid e2
    have S2 := Lib.hid (s2.below (bA0 _ (.cells #[.slice (some ⟨b1', 0, none⟩) n n, .slice (some ⟨b2', 0, none⟩) m m] 43)))
    have P2 := Lib.hid (p2.below (bA0 _ (.cells #[.slice (some ⟨b1', 0, none⟩) n n, .slice (some ⟨b2', 0, none⟩) m m] 43)))
    have X2 := Lib.hid (TabAt.new w4 (some ⟨b1', 0, none⟩) n n (some ⟨b2', 0, none⟩) m m)
    have D5 := Lib.hid (bA D4.out (.cells #[.slice (some ⟨b1', 0, none⟩) n n, .slice (some ⟨b2', 0, none⟩) m m] 43))
    have hs4 := A4.out.size
    have A5 := Lib.hid (A4.out.trans ((bA0 w4 (.cells #[.slice (some ⟨b1', 0, none⟩) n n, .slice (some ⟨b2', 0, none⟩) m m] 43)).mono (by omega)))
    clear e2 s2 p2 bl4 A3 D3 t0 t1 tl A4 D4
    go_wp2_with fail
    generalize w4.alloc (.cells #[.slice (some ⟨b1', 0, none⟩) n n, .slice (some ⟨b2', 0, none⟩) m m] 43) = w5 at *
    refine (TI.out b1' b2' rs2 w5 D5.out E2.out S2.out P2.out).mono ?_
    rintro e w6 ⟨rfl, bl6⟩
    have hs5 := A5.out.size
    have D6 := Lib.hid (bT D5.out bl6)
    have A6 := Lib.hid (A5.out.trans (bl6.mono (by omega)))
    have S6 := Lib.hid (S2.out.below bl6)
    have P6 := Lib.hid (P2.out.below bl6)
    have X6 := Lib.hid (X2.out.below bl6)
    clear bl6 S2 P2 X2 A5 D5 TI TS
    have hrr : (!(r.toList == r.toList)) = false := by simp
    have hw4 := X6.out.lt
    have hs6 := A6.out.size
    have KX : Hid (∀ W, Below w6.heap.size w6 W → w.heap.size < W.heap.size ∧ w4.heap.size < W.heap.size ∧ W.cell? ⟨w.heap.size, 0, none⟩ = some (.slice sl n cap) ∧ W.cell? ⟨w.heap.size, 1, none⟩ = some (.slice sl2 m cap2) ∧ W.cell? ⟨w4.heap.size, 0, none⟩ = some (.slice (some ⟨b1', 0, none⟩) n n) ∧ W.cell? ⟨w4.heap.size, 1, none⟩ = some (.slice (some ⟨b2', 0, none⟩) m m)) := fun W hW => by
      obtain ⟨k1, k2, k3⟩ := KT.out W (A6.out.trans (hW.mono (by omega)))
      obtain ⟨k4, k5⟩ := (X6.out.below hW).cells
      exact ⟨k1, (X6.out.below hW).lt, k2, k3, k4, k5⟩
    go_wp2_with fail
    refine wp_region_held_drew (S := fun W => w.heap.size < W.heap.size ∧ w4.heap.size < W.heap.size ∧ W.cell? ⟨w.heap.size, 0, none⟩ = some (.slice sl n cap) ∧ W.cell? ⟨w.heap.size, 1, none⟩ = some (.slice sl2 m cap2) ∧ W.cell? ⟨w4.heap.size, 0, none⟩ = some (.slice (some ⟨b1', 0, none⟩) n n) ∧ W.cell? ⟨w4.heap.size, 1, none⟩ = some (.slice (some ⟨b2', 0, none⟩) m m)) (by kernel_rfl) ?_ (fun hHeld => ?_)
    · exact KX.out _ (Below.refl _ _).drew
    refine wpAnyH_take (i := 0) (oi := _) (v := ?_) rfl (by kernel_rfl) (by kernel_rfl) (by kernel_rfl) (fun _ _ _ h => h) (Or.inl ⟨by rfl, ?_⟩) (by assumption) ?_
    rotate_left
    · first | (intro w hSw; (try dsimp only at hSw); go_simp; done) | (intro w hSw; (try dsimp only at hSw); go_simp; with_reducible rfl)
    try simp only [Act.put, List.setIfInBounds_toArray, List.set_cons_zero, List.set_cons_succ, List.getElem_toArray, List.getElem_cons_zero]
    refine wpAnyH_take (i := 1) (oi := _) (v := ?_) rfl (by kernel_rfl) (by kernel_rfl) (by kernel_rfl) (fun _ _ _ h => h) (Or.inl ⟨by rfl, ?_⟩) (by assumption) ?_
    rotate_left
    · first | (intro w hSw; (try dsimp only at hSw); go_simp; done) | (intro w hSw; (try dsimp only at hSw); go_simp; with_reducible rfl)
    try simp only [Act.put, List.setIfInBounds_toArray, List.set_cons_zero, List.set_cons_succ, List.getElem_toArray, List.getElem_cons_succ, List.getElem_cons_zero]
    refine wpAnyH_ready (rs := [2]) (by kernel_rfl) (by simp) ?_
    refine AllReadyH.cons rfl (fun K hK => ?_) AllReadyH.nil
    go_simp
    go_wp2_with (go_at_call 19; refine (TO.out _ D6.out.drew).mono ?_; rintro e w7 ⟨c1, c2, rs3, rfl, e3, s3, p3, bl7⟩)
    have D7 : Hid (Below w6.heap.size w6 w7) := bT ((Below.refl w6.heap.size w6).drew) bl7
    have S7 := Lib.hid s3
    have P7 := Lib.hid p3
    have E7 := Lib.hid e3
    clear bl7 s3 p3 e3
    refine hK.out _ _ ?_ (fun hHeld => ?_)
    · exact KX.out _ D7.out
    clear hK K
    refine wpAnyH_ready (rs := [3]) (by kernel_rfl) (by simp) ?_
    refine AllReadyH.cons rfl (fun K hK => ?_) AllReadyH.nil
    go_simp
    go_wp2_with (go_at_call 21; refine (TE.out b1' b2' rs2 c1 c2 rs3 _ E2.out E7.out (S6.out.below D7.out) (P6.out.below D7.out) S7.out P7.out).mono ?_; rintro e w8 ⟨rfl, bl8⟩)
    have D8 : Hid (Below w6.heap.size w6 w8) := bT D7.out bl8
    clear bl8
    refine hK.out _ _ ?_ (fun hHeld => ?_)
    · exact KX.out _ D8.out
    clear hK K
    refine wpAnyH_take (i := 4) (oi := _) (v := ?_) rfl (by kernel_rfl) (by kernel_rfl) (by kernel_rfl) (fun _ _ _ h => h) (Or.inl ⟨by rfl, ?_⟩) (by assumption) ?_
    rotate_left
    · first | (intro w hSw; (try dsimp only at hSw); go_simp; done) | (intro w hSw; (try dsimp only at hSw); go_simp; with_reducible rfl)
    try simp only [Act.put, List.setIfInBounds_toArray, List.set_cons_zero, List.set_cons_succ, List.getElem_toArray, List.getElem_cons_succ, List.getElem_cons_zero]
    refine wpAnyH_done (by kernel_rfl) ?_ _
    have D9 := Lib.hid (bT D6.out D8.out)
    clear D8 D7 KX S7 P7 E7 TE TO
    go_wp2
    go_ret
    exact ⟨rfl, D9.out⟩

end Go.Proofs.YtcnpdjjfcfkcfaaDoor
