/-
  THE LAW FnExactAskText: the walk.
-/
import Derived.Test.YtllaiigjkchahaaDoorSb
namespace Go.Proofs.YtllaiigjkchahaaDoor
open Go.RowKit
set_option linter.unusedVariables false

set_option maxRecDepth 100000 in
set_option maxHeartbeats 4000000 in
theorem law4 (v h : Int) (s1 : Option Addr) (c1 : Nat) (pl : List LPl) (s2 : Option Addr) (c2 : Nat) (cs : List LCl) (st cd : Int) (w : World) (hn : pl.length ≤ maxLen) (hk : cs.length ≤ maxLen) (hw : WfPs pl) (hb : WfL (bareC cs)) (hp : Pls w s1 pl) (hz : Cls w s2 cs) (hst : wfI st) (ht : PowTab w) :
    Calls Tryd.prog 4 #[AV v h s1 pl.length c1 s2 cs.length c2 st cd] w fun e w' => e = .returned (.bool true) ∧ Below w.heap.size w w' := by
  have SZ : Hid (∀ W, Below w.heap.size w W → Calls Tryd.prog 10 #[AV v h s1 pl.length c1 s2 cs.length c2 st cd, .int .i64 1048576] W fun e w' => ∃ z : Int, e = .returned (.int .i64 z) ∧ (z < 0 ∨ (0 ≤ z ∧ pl.length ≤ 1048576 ∧ cs.length ≤ 1048576 ∧ totC cs ≤ 1048576)) ∧ Below W.heap.size W w') := fun W hW => szA_any v h s1 c1 pl s2 c2 cs st cd W hn hk (hz.below hW)
  have TO : Hid (pl.length ≤ 1048576 ∧ cs.length ≤ 1048576 ∧ totC cs ≤ 1048576 → ∀ W, Below w.heap.size w W → Calls Tryd.prog 12 #[AV v h s1 pl.length c1 s2 cs.length c2 st cd] W fun e w' => ∃ b1 b2 cs', e = .returned (AV v h (some ⟨b1, 0, none⟩) pl.length pl.length (some ⟨b2, 0, none⟩) cs.length cs.length st cd) ∧ bareC cs' = bareC cs ∧ Row2 w' b1 pl.length pl ∧ Cls w' (some ⟨b2, 0, none⟩) cs' ∧ Below W.heap.size W w') := fun g W hW => toA_any v h s1 c1 pl s2 c2 cs st cd W g.1 g.2.1 g.2.2 (hp.below hW) (hz.below hW)
  have SP : Hid (cs.length ≤ 1048576 → ∀ b1 b2 cs' W, Row2 W b1 pl.length pl → Cls W (some ⟨b2, 0, none⟩) cs' → bareC cs' = bareC cs → Below w.heap.size w W → Calls Tryd.prog 11 #[AV v h (some ⟨b1, 0, none⟩) pl.length pl.length (some ⟨b2, 0, none⟩) cs.length cs.length st cd] W fun e w' => e = .returned (.string ⟨(askT v pl (bareC cs) st cd).toArray⟩) ∧ Below W.heap.size W w') := fun g b1 b2 cs' W r z e hW => by
    have hl := bareC_len e
    have := sat_any v h (some ⟨b1, 0, none⟩) pl.length pl (some ⟨b2, 0, none⟩) cs.length cs' st cd W hn (by omega) hw (by rw [e]; exact hb) r.pls z hst (ht.below hW)
    rwa [hl, e] at this
  have IM : Hid (cs.length ≤ 1048576 → ∀ b1 b2 cs' W, Row2 W b1 pl.length pl → Cls W (some ⟨b2, 0, none⟩) cs' → bareC cs' = bareC cs → Below w.heap.size w W → Calls Tryd.prog 13 #[AV v h (some ⟨b1, 0, none⟩) pl.length pl.length (some ⟨b2, 0, none⟩) cs.length cs.length st cd] W fun e w' => e = .returned (.string ⟨(askT v pl (bareC cs) st cd).toArray⟩) ∧ Below W.heap.size W w') := fun g b1 b2 cs' W r z e hW => by
    have hl := bareC_len e
    have := iat_any v h (some ⟨b1, 0, none⟩) pl.length pl (some ⟨b2, 0, none⟩) cs.length cs' st cd W hn (by omega) hw (by rw [e]; exact hb) r.pls z hst (ht.below hW)
    rwa [hl, e] at this
  have EQ : Hid (pl.length ≤ 1048576 ∧ cs.length ≤ 1048576 → ∀ b1 b2 d1 d2 cs1 cs2 W, bareC cs1 = bareC cs2 → bareC cs1 = bareC cs → Row2 W b1 pl.length pl → Row2 W d1 pl.length pl → Cls W (some ⟨b2, 0, none⟩) cs1 → Cls W (some ⟨d2, 0, none⟩) cs2 → Calls Tryd.prog 14 #[AV v h (some ⟨b1, 0, none⟩) pl.length pl.length (some ⟨b2, 0, none⟩) cs.length cs.length st cd, AV v h (some ⟨d1, 0, none⟩) pl.length pl.length (some ⟨d2, 0, none⟩) cs.length cs.length st cd] W fun e w' => e = .returned (.bool true) ∧ Below W.heap.size W w') := fun g b1 b2 d1 d2 cs1 cs2 W e e2 r1 r2 z1 z2 => eqA_any v h b1 b2 d1 d2 pl.length cs.length pl cs1 cs2 st cd W rfl (bareC_len e2) g.1 g.2 e r1 r2 z1 z2
  clear hn hk hw hb hp hz hst ht
  generalize (⟨(askT v pl (bareC cs) st cd).toArray⟩ : ByteArray) = tx at *
  generalize pl.length = n at *
  generalize cs.length = k at *
  have hne : (!(tx.toList == tx.toList)) = false := by simp
  have B0 := Lib.hid (bA0 w (.cells #[.int .i64 v, .int .i64 h, .slice s1 n c1, .slice s2 k c2, .int .i64 st, .int .i64 cd] 31))
  have N0 := Lib.hid (new_at w (.cells #[.int .i64 v, .int .i64 h, .slice s1 n c1, .slice s2 k c2, .int .i64 st, .int .i64 cd] 31))
  go_enter Tryd.func4, Tryd.ntmps4
  go_wp2_with fail
  refine (SZ.out _ B0.out).mono ?_
  generalize w.alloc (.cells #[.int .i64 v, .int .i64 h, .slice s1 n c1, .slice s2 k c2, .int .i64 st, .int .i64 cd] 31) = w0 at *
  rintro e w1 ⟨z, rfl, hzz, b1⟩
  obtain ⟨-, -, -, -, -, -, -, hl0⟩ := six_cells N0.out
  have N1 := Lib.hid ((b1.block _ hl0).trans N0.out)
  have D1 := Lib.hid (bT B0.out b1)
  have HZ := Lib.hid hzz
  clear b1 SZ hl0 hzz
  by_cases hneg : z < 0
  · go_wp2
    go_ret
    exact ⟨rfl, D1.out⟩
  have G : Hid (n ≤ 1048576 ∧ k ≤ 1048576 ∧ totC cs ≤ 1048576) := by
    rcases HZ.out with h | h
    · exact absurd h hneg
    · exact h.2
  have TO := Lib.hid (TO.out G.out)
  have SP := Lib.hid (SP.out G.out.2.1)
  have IM := Lib.hid (IM.out G.out.2.1)
  have EQ := Lib.hid (EQ.out ⟨G.out.1, G.out.2.1⟩)
  clear HZ G
  obtain ⟨x0, x1, x2, x3, x4, x5, xF, xL⟩ := six_cells N1.out
  go_wp2_with fail
  refine (TO.out _ D1.out).mono ?_
  rintro e w2 ⟨a1, a2, cs1, rfl, e1, q1, y1, b2⟩
  have N2 := Lib.hid ((b2.block _ xL).trans N1.out)
  have D2 := Lib.hid (bT D1.out b2)
  have S2 := Lib.hid (SP.out a1 a2 cs1 w2 q1 y1 e1 D2.out)
  clear b2 q1 y1 e1 x0 x1 x2 x3 x4 x5 xF xL
  go_wp2_with fail
  refine S2.out.mono ?_
  rintro e w3 ⟨rfl, b3⟩
  obtain ⟨-, -, -, -, -, -, -, hl2⟩ := six_cells N2.out
  have N3 := Lib.hid ((b3.block _ hl2).trans N2.out)
  have D3 := Lib.hid (bT D2.out b3)
  obtain ⟨x0, x1, x2, x3, x4, x5, xF, xL⟩ := six_cells N3.out
  clear b3 S2 hl2
  go_wp2_with fail
  refine (TO.out _ D3.out).mono ?_
  rintro e w5 ⟨p1, p2, cs2, rfl, e2, q2, y2, b5⟩
  have N5 := Lib.hid ((b5.block _ xL).trans N3.out)
  have D5 := Lib.hid (bT D3.out b5)
  have E2 := Lib.hid e2
  have Q5 := Lib.hid (q2.below (bA0 w5 (.cells #[.int .i64 v, .int .i64 h, .slice (some ⟨p1, 0, none⟩) n n, .slice (some ⟨p2, 0, none⟩) k k, .int .i64 st, .int .i64 cd] 35)))
  have Y5 := Lib.hid (y2.below (bA0 w5 (.cells #[.int .i64 v, .int .i64 h, .slice (some ⟨p1, 0, none⟩) n n, .slice (some ⟨p2, 0, none⟩) k k, .int .i64 st, .int .i64 cd] 35)))
  have D5a := Lib.hid (bA D5.out (.cells #[.int .i64 v, .int .i64 h, .slice (some ⟨p1, 0, none⟩) n n, .slice (some ⟨p2, 0, none⟩) k k, .int .i64 st, .int .i64 cd] 35))
  have O5 := Lib.hid (new_at w5 (.cells #[.int .i64 v, .int .i64 h, .slice (some ⟨p1, 0, none⟩) n n, .slice (some ⟨p2, 0, none⟩) k k, .int .i64 st, .int .i64 cd] 35))
  have N5a := Lib.hid (((bA0 w5 (.cells #[.int .i64 v, .int .i64 h, .slice (some ⟨p1, 0, none⟩) n n, .slice (some ⟨p2, 0, none⟩) k k, .int .i64 st, .int .i64 cd] 35)).block _ (six_cells N5.out).2.2.2.2.2.2.2).trans N5.out)
  have I5 := Lib.hid (IM.out p1 p2 cs2 _ Q5.out Y5.out E2.out D5a.out)
  clear b5 e2 q2 y2 x0 x1 x2 x3 x4 x5 xF xL
  go_wp2_with fail
  refine I5.out.mono ?_
  generalize hww : w5.alloc (.cells #[.int .i64 v, .int .i64 h, .slice (some ⟨p1, 0, none⟩) n n, .slice (some ⟨p2, 0, none⟩) k k, .int .i64 st, .int .i64 cd] 35) = w5a at *
  rintro e w6 ⟨rfl, b6⟩
  have N6 := Lib.hid ((b6.block _ (six_cells N5a.out).2.2.2.2.2.2.2).trans N5a.out)
  have O6 := Lib.hid ((b6.block _ (six_cells O5.out).2.2.2.2.2.2.2).trans O5.out)
  have D6 := Lib.hid (bT D5a.out b6)
  have Q6 := Lib.hid (Q5.out.below b6)
  have Y6 := Lib.hid (Y5.out.below b6)
  have KB : Hid (∀ W, Below w6.heap.size w6 W → (W.cell? ⟨w.heap.size, 0, none⟩ = some (.int .i64 v) ∧ W.cell? ⟨w.heap.size, 1, none⟩ = some (.int .i64 h) ∧ W.cell? ⟨w.heap.size, 2, none⟩ = some (.slice s1 n c1) ∧ W.cell? ⟨w.heap.size, 3, none⟩ = some (.slice s2 k c2) ∧ W.cell? ⟨w.heap.size, 4, none⟩ = some (.int .i64 st) ∧ W.cell? ⟨w.heap.size, 5, none⟩ = some (.int .i64 cd)) ∧ (W.cell? ⟨w5.heap.size, 0, none⟩ = some (.int .i64 v) ∧ W.cell? ⟨w5.heap.size, 1, none⟩ = some (.int .i64 h) ∧ W.cell? ⟨w5.heap.size, 2, none⟩ = some (.slice (some ⟨p1, 0, none⟩) n n) ∧ W.cell? ⟨w5.heap.size, 3, none⟩ = some (.slice (some ⟨p2, 0, none⟩) k k) ∧ W.cell? ⟨w5.heap.size, 4, none⟩ = some (.int .i64 st) ∧ W.cell? ⟨w5.heap.size, 5, none⟩ = some (.int .i64 cd))) := fun W hW => by
    obtain ⟨x0, x1, x2, x3, x4, x5, -, -⟩ := six_cells ((hW.block _ (six_cells N6.out).2.2.2.2.2.2.2).trans N6.out)
    obtain ⟨y0, y1, y2, y3, y4, y5, -, -⟩ := six_cells ((hW.block _ (six_cells O6.out).2.2.2.2.2.2.2).trans O6.out)
    exact ⟨⟨x0, x1, x2, x3, x4, x5⟩, y0, y1, y2, y3, y4, y5⟩
  clear b6 I5 hww N0 N1 N2 N3 N5 N5a O5 D1 D2 D3 D5 D5a Q5 Y5 SP IM
  obtain ⟨x0, x1, x2, x3, x4, x5, xF, xL⟩ := six_cells N6.out
  obtain ⟨y0, y1, y2, y3, y4, y5, yF, yL⟩ := six_cells O6.out
  go_wp2_with fail
  clear x0 x1 x2 x3 x4 x5 xF xL y0 y1 y2 y3 y4 y5 yF yL
  refine wp_region_held_drew (S := fun W => (W.cell? ⟨w.heap.size, 0, none⟩ = some (.int .i64 v) ∧ W.cell? ⟨w.heap.size, 1, none⟩ = some (.int .i64 h) ∧ W.cell? ⟨w.heap.size, 2, none⟩ = some (.slice s1 n c1) ∧ W.cell? ⟨w.heap.size, 3, none⟩ = some (.slice s2 k c2) ∧ W.cell? ⟨w.heap.size, 4, none⟩ = some (.int .i64 st) ∧ W.cell? ⟨w.heap.size, 5, none⟩ = some (.int .i64 cd)) ∧ (W.cell? ⟨w5.heap.size, 0, none⟩ = some (.int .i64 v) ∧ W.cell? ⟨w5.heap.size, 1, none⟩ = some (.int .i64 h) ∧ W.cell? ⟨w5.heap.size, 2, none⟩ = some (.slice (some ⟨p1, 0, none⟩) n n) ∧ W.cell? ⟨w5.heap.size, 3, none⟩ = some (.slice (some ⟨p2, 0, none⟩) k k) ∧ W.cell? ⟨w5.heap.size, 4, none⟩ = some (.int .i64 st) ∧ W.cell? ⟨w5.heap.size, 5, none⟩ = some (.int .i64 cd))) (by kernel_rfl) ?_ (fun hHeld => ?_)
  · exact KB.out _ (Below.refl _ _).drew
  refine wpAnyH_take (i := 0) (oi := _) (v := ?_) rfl (by kernel_rfl) (by kernel_rfl) (by kernel_rfl) (fun _ _ _ h => h) (Or.inl ⟨by rfl, ?_⟩) (by assumption) ?_
  rotate_left
  · first | (intro w hSw; (try dsimp only at hSw); go_simp; done) | (intro w hSw; (try dsimp only at hSw); go_simp; with_reducible rfl)
  try simp only [Act.put, List.setIfInBounds_toArray, List.set_cons_zero, List.set_cons_succ, List.getElem_toArray, List.getElem_cons_zero]
  refine wpAnyH_take (i := 1) (oi := _) (v := ?_) rfl (by kernel_rfl) (by kernel_rfl) (by kernel_rfl) (fun _ _ _ h => h) (Or.inl ⟨by rfl, ?_⟩) (by assumption) ?_
  rotate_left
  · first | (intro w hSw; (try dsimp only at hSw); go_simp; done) | (intro w hSw; (try dsimp only at hSw); go_simp; with_reducible rfl)
  try simp only [Act.put, List.setIfInBounds_toArray, List.set_cons_zero, List.set_cons_succ, List.getElem_toArray, List.getElem_cons_succ, List.getElem_cons_zero]
  refine wpAnyH_ready (rs := [2]) (by kernel_rfl) (by simp) ?_
  refine AllReadyH.cons rfl (fun K hK => ?_) AllReadyH.nil
  go_simp
  go_wp2_with (go_at_call 12; refine (TO.out _ D6.out.drew).mono ?_; rintro e w7 ⟨r1, r2, cs3, rfl, e3, q3, y3, b7⟩)
  have F7 : Hid (Below w.heap.size w w7) := bT D6.out.drew b7
  have G7 : Hid (Below w6.heap.size w6 w7) := bT (Below.refl w6.heap.size w6).drew b7
  clear b7
  refine hK.out _ _ ?_ (fun hHeld => ?_)
  · exact KB.out _ G7.out
  clear hK K
  refine wpAnyH_ready (rs := [3]) (by kernel_rfl) (by simp) ?_
  refine AllReadyH.cons rfl (fun K hK => ?_) AllReadyH.nil
  go_simp
  go_wp2_with (go_at_call 14; refine (EQ.out p1 p2 r1 r2 cs2 cs3 w7 (E2.out.trans e3.symm) E2.out (Q6.out.below G7.out) q3 (Y6.out.below G7.out) y3).mono ?_; rintro e w8 ⟨rfl, b8⟩)
  have F8 : Hid (Below w.heap.size w w8) := bT F7.out b8
  have G8 : Hid (Below w6.heap.size w6 w8) := bT G7.out b8
  clear b8
  refine hK.out _ _ ?_ (fun hHeld => ?_)
  · exact KB.out _ G8.out
  clear hK K
  refine wpAnyH_take (i := 4) (oi := _) (v := ?_) rfl (by kernel_rfl) (by kernel_rfl) (by kernel_rfl) (fun _ _ _ h => h) (Or.inl ⟨by rfl, ?_⟩) (by assumption) ?_
  rotate_left
  · first | (intro w hSw; (try dsimp only at hSw); go_simp; done) | (intro w hSw; (try dsimp only at hSw); go_simp; with_reducible rfl)
  try simp only [Act.put, List.setIfInBounds_toArray, List.set_cons_zero, List.set_cons_succ, List.getElem_toArray, List.getElem_cons_succ, List.getElem_cons_zero]
  refine wpAnyH_done (by kernel_rfl) ?_ _
  clear KB TO EQ G7 G8
  go_wp2
  go_ret
  exact ⟨rfl, F8.out⟩
end Go.Proofs.YtllaiigjkchahaaDoor
