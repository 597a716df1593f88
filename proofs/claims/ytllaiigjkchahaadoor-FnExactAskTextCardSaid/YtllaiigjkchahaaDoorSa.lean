/-
  AN ORACLE'S ANSWER OF THE LAWS: its size, its copy, two answers held against each other.
-/
import Derived.Test.YtllaiigjkchahaaDoorRb
import Derived.Test.YtllaiigjkchahaaDoorBi
namespace Go.Proofs.YtllaiigjkchahaaDoor
open Go.RowKit
set_option linter.unusedVariables false

abbrev AV (v h : Int) (s1 : Option Addr) (n1 c1 : Nat) (s2 : Option Addr) (n2 c2 : Nat) (st cd : Int) : Value := .agg #[.int .i64 v, .int .i64 h, .slice s1 n1 c1, .slice s2 n2 c2, .int .i64 st, .int .i64 cd]
set_option maxRecDepth 100000 in
set_option maxHeartbeats 2000000 in
theorem szA_any (v h : Int) (s1 : Option Addr) (c1 : Nat) (pl : List LPl) (s2 : Option Addr) (c2 : Nat) (cs : List LCl) (st cd : Int) (w : World) (hn : pl.length ≤ maxLen) (hc : cs.length ≤ maxLen) (hz : Cls w s2 cs) :
    Calls Tryd.prog 10 #[AV v h s1 pl.length c1 s2 cs.length c2 st cd, .int .i64 1048576] w fun e w' => ∃ z : Int, e = .returned (.int .i64 z) ∧ (z < 0 ∨ (0 ≤ z ∧ pl.length ≤ 1048576 ∧ cs.length ≤ 1048576 ∧ totC cs ≤ 1048576)) ∧ Below w.heap.size w w' := by
  have SZ := Lib.hid (fun W => szPl_any s1 pl.length c1 1048576 W hn (by omega) (by omega))
  have B0 := Lib.hid (bA0 w (.cells #[.int .i64 v, .int .i64 h, .slice s1 pl.length c1, .slice s2 cs.length c2, .int .i64 st, .int .i64 cd] 31))
  rcases lft_cases 1048576 pl.length (by omega) with ⟨e, hl⟩ | ⟨e, hl⟩
  · rw [e] at SZ
    clear hz e hl
    generalize pl.length = n at *
    generalize cs.length = k at *
    go_enter Tryd.func10, Tryd.ntmps10
    go_wp2_with fail
    refine (SZ.out _).mono ?_
    rintro e w1 ⟨rfl, rfl⟩
    go_wp2
    go_ret
    exact ⟨-1, rfl, .inl (by omega), B0.out⟩
  · rw [e] at SZ
    have SL : Hid (∀ W, Below w.heap.size w W → Calls Tryd.prog 20 #[.slice s2 cs.length c2, .int .i64 (1048576 - (pl.length : Int))] W fun e w' => e = .returned (.int .i64 (lft (1048576 - (pl.length : Int)) (cs.length + totC cs))) ∧ Below W.heap.size W w') := fun W hW => szL_any s2 c2 cs _ W hc (by omega) (by omega) (hz.below hW)
    have hneg : ¬ (1048576 - (pl.length : Int)) < 0 := by omega
    rcases lft_cases (1048576 - (pl.length : Int)) (cs.length + totC cs) (by omega) with ⟨e2, hl2⟩ | ⟨e2, hl2⟩
    · rw [e2] at SL
      clear hz e e2 hl2
      generalize pl.length = n at *
      generalize cs.length = k at *
      go_enter Tryd.func10, Tryd.ntmps10
      go_wp2_with fail
      refine (SZ.out _).mono ?_
      rintro e w1 ⟨rfl, rfl⟩
      have CC : Hid ((w.alloc (.cells #[.int .i64 v, .int .i64 h, .slice s1 n c1, .slice s2 k c2, .int .i64 st, .int .i64 cd] 31)).heap[w.heap.size]? = some (.cells #[.int .i64 v, .int .i64 h, .slice s1 n c1, .slice s2 k c2, .int .i64 st, .int .i64 cd] 31)) := new_at _ _
      go_wp2_with fail
      refine (SL.out _ B0.out).mono ?_
      rintro e w2 ⟨rfl, b2⟩
      have B2 := Lib.hid (bT B0.out b2)
      go_wp2
      go_ret
      exact ⟨-1, rfl, .inl (by omega), B2.out⟩
    · rw [e2] at SL
      have G : Hid (0 ≤ (1048576 - (pl.length : Int)) - ((cs.length + totC cs : Nat) : Int) ∧ pl.length ≤ 1048576 ∧ cs.length ≤ 1048576 ∧ totC cs ≤ 1048576) := ⟨by omega, by omega, by omega, by omega⟩
      have hneg2 : ¬ (1048576 - (pl.length : Int)) - ((cs.length + totC cs : Nat) : Int) < 0 := by omega
      clear hz e e2 hl2
      generalize hz0 : (1048576 - (pl.length : Int)) - ((cs.length + totC cs : Nat) : Int) = z at *
      clear hz0
      generalize pl.length = n at *
      generalize cs.length = k at *
      go_enter Tryd.func10, Tryd.ntmps10
      go_wp2_with fail
      refine (SZ.out _).mono ?_
      rintro e w1 ⟨rfl, rfl⟩
      go_wp2_with fail
      refine (SL.out _ B0.out).mono ?_
      rintro e w2 ⟨rfl, b2⟩
      have B2 := Lib.hid (bT B0.out b2)
      go_wp2
      go_ret
      exact ⟨z, rfl, .inr G.out, B2.out⟩
theorem six_cells {w : World} {b : Nat} {t : TypeId} {x0 x1 x2 x3 x4 x5 : Value} (h : w.heap[b]? = some (.cells #[x0, x1, x2, x3, x4, x5] t)) :
    w.cell? ⟨b, 0, none⟩ = some x0 ∧ w.cell? ⟨b, 1, none⟩ = some x1 ∧ w.cell? ⟨b, 2, none⟩ = some x2 ∧ w.cell? ⟨b, 3, none⟩ = some x3 ∧ w.cell? ⟨b, 4, none⟩ = some x4 ∧ w.cell? ⟨b, 5, none⟩ = some x5 ∧ (∀ o, w.frozen? ⟨b, o, none⟩ = false) ∧ b < w.heap.size := by
  refine ⟨?_, ?_, ?_, ?_, ?_, ?_, fun o => ?_, (Array.getElem?_eq_some_iff.1 h).1⟩ <;> simp [World.cell?, World.frozen?, h]
theorem Row2.setLow {w : World} {b n : Nat} {ts : List LPl} (h : Row2 w b n ts) {c : Nat} (hc : c ≠ b) (i : Nat) (u : Value) : Row2 (w.setCell ⟨c, i, none⟩ u) b n ts := by
  obtain ⟨vs, h1, h2⟩ := h
  exact ⟨vs, by rw [Below.heap_setCell _ _ _ _ (by exact fun e => hc e.symm)]; exact h1, h2⟩
set_option maxRecDepth 100000 in
set_option maxHeartbeats 4000000 in
theorem toA_any (v h : Int) (s1 : Option Addr) (c1 : Nat) (pl : List LPl) (s2 : Option Addr) (c2 : Nat) (cs : List LCl) (st cd : Int) (w : World) (hn : pl.length ≤ 1048576) (hc : cs.length ≤ 1048576) (ht : totC cs ≤ 1048576) (hp : Pls w s1 pl) (hz : Cls w s2 cs) :
    Calls Tryd.prog 12 #[AV v h s1 pl.length c1 s2 cs.length c2 st cd] w fun e w' => ∃ b1 b2 cs', e = .returned (AV v h (some ⟨b1, 0, none⟩) pl.length pl.length (some ⟨b2, 0, none⟩) cs.length cs.length st cd) ∧ bareC cs' = bareC cs ∧ Row2 w' b1 pl.length pl ∧ Cls w' (some ⟨b2, 0, none⟩) cs' ∧ Below w.heap.size w w' := by
  have E1 : Hid (∀ W, Below w.heap.size w W → Calls Tryd.prog 7 #[.slice s1 pl.length c1] W fun e w' => e = .returned (.slice (some ⟨W.heap.size, 0, none⟩) pl.length pl.length) ∧ Row2 w' W.heap.size pl.length pl ∧ Below W.heap.size W w') := fun W hW => toPlS_any s1 c1 pl W hn (hp.below hW)
  have E2 : Hid (∀ W, Below w.heap.size w W → Calls Tryd.prog 22 #[.slice s2 cs.length c2] W fun e w' => ∃ cs' : List LCl, e = .returned (.slice (some ⟨W.heap.size, 0, none⟩) cs.length cs.length) ∧ bareC cs' = bareC cs ∧ RowV w' W.heap.size cs.length (cs'.map fun r => r.1) ∧ (∀ r ∈ cs', ClOut W.heap.size w' r) ∧ Below W.heap.size W w') := fun W hW => toL_any s2 c2 cs W hc ht (hz.below hW)
  clear hp hz hn hc ht
  generalize pl.length = n at *
  generalize cs.length = k at *
  obtain ⟨n0, n1, n2, n3⟩ := three_new w (.cells #[.int .i64 v, .int .i64 h, .slice s1 n c1, .slice s2 k c2, .int .i64 st, .int .i64 cd] 31) (.cells #[.int .i64 0, .int .i64 0, .slice none 0 0, .slice none 0 0, .int .i64 0, .int .i64 0] 35) (.cells #[.int .i64 v, .int .i64 h, .slice none 0 0, .slice none 0 0, .int .i64 0, .int .i64 0] 35)
  have B0 := Lib.hid (bA (bA (bA0 w (.cells #[.int .i64 v, .int .i64 h, .slice s1 n c1, .slice s2 k c2, .int .i64 st, .int .i64 cd] 31)) (.cells #[.int .i64 0, .int .i64 0, .slice none 0 0, .slice none 0 0, .int .i64 0, .int .i64 0] 35)) (.cells #[.int .i64 v, .int .i64 h, .slice none 0 0, .slice none 0 0, .int .i64 0, .int .i64 0] 35))
  have N0 := Lib.hid n0
  have N1 := Lib.hid n1
  have N2 := Lib.hid n2
  have N3 := Lib.hid n3
  clear n0 n1 n2 n3
  go_enter Tryd.func12, Tryd.ntmps12
  go_wp2_with fail
  refine (E1.out _ B0.out).mono ?_
  generalize ((w.alloc (.cells #[.int .i64 v, .int .i64 h, .slice s1 n c1, .slice s2 k c2, .int .i64 st, .int .i64 cd] 31)).alloc (.cells #[.int .i64 0, .int .i64 0, .slice none 0 0, .slice none 0 0, .int .i64 0, .int .i64 0] 35)).alloc (.cells #[.int .i64 v, .int .i64 h, .slice none 0 0, .slice none 0 0, .int .i64 0, .int .i64 0] 35) = w0 at *
  rintro e w1 ⟨rfl, r1, b1⟩
  have hs := N3.out
  rw [hs] at r1
  have M0 := Lib.hid ((b1.block w.heap.size (by omega)).trans N0.out)
  have M1 := Lib.hid ((b1.block (w.heap.size + 1) (by omega)).trans N1.out)
  have M2 := Lib.hid ((b1.block (w.heap.size + 1 + 1) (by omega)).trans N2.out)
  have BB := Lib.hid (bT B0.out b1)
  have R1 := Lib.hid r1
  have hs1 := b1.size
  clear r1 b1 N0 N1 N2 N3
  have P2 := Lib.hid (heap_setCell_same w1 (w.heap.size + 1 + 1) 2 _ 35 (.slice (some ⟨w.heap.size + 3, 0, none⟩) n n) M2.out)
  have P1 : Hid ((w1.setCell ⟨w.heap.size + 1 + 1, 2, none⟩ (.slice (some ⟨w.heap.size + 3, 0, none⟩) n n)).heap[w.heap.size + 1]? = some (.cells #[.int .i64 0, .int .i64 0, .slice none 0 0, .slice none 0 0, .int .i64 0, .int .i64 0] 35)) := by show _ = _; rw [Below.heap_setCell _ _ _ _ (by first | (simp; done) | (simp; omega))]; exact M1.out
  have P0 : Hid ((w1.setCell ⟨w.heap.size + 1 + 1, 2, none⟩ (.slice (some ⟨w.heap.size + 3, 0, none⟩) n n)).heap[w.heap.size]? = some (.cells #[.int .i64 v, .int .i64 h, .slice s1 n c1, .slice s2 k c2, .int .i64 st, .int .i64 cd] 31)) := by show _ = _; rw [Below.heap_setCell _ _ _ _ (by first | (simp; done) | (simp; omega))]; exact M0.out
  have BP := Lib.hid (BB.out.setCell (p := ⟨w.heap.size + 1 + 1, 2, none⟩) (show w.heap.size ≤ w.heap.size + 1 + 1 by omega) (.slice (some ⟨w.heap.size + 3, 0, none⟩) n n))
  have R2 := Lib.hid (R1.out.setLow (c := w.heap.size + 1 + 1) (by omega) 2 (.slice (some ⟨w.heap.size + 3, 0, none⟩) n n))
  have hsz : (w1.setCell ⟨w.heap.size + 1 + 1, 2, none⟩ (.slice (some ⟨w.heap.size + 3, 0, none⟩) n n)).heap.size = w1.heap.size := by simp
  obtain ⟨i0, i1, i2, i3, i4, i5, iF, iL⟩ := six_cells M2.out
  obtain ⟨-, -, -, j3, -, -, -, -⟩ := six_cells P0.out
  have EW := E2.out _ BP.out
  clear M0 M1 M2 BB R1 E1 E2
  go_wp2_with fail
  refine EW.mono ?_
  clear i0 i1 i2 i3 i4 i5 iF iL j3 EW
  generalize w1.setCell ⟨w.heap.size + 1 + 1, 2, none⟩ (.slice (some ⟨w.heap.size + 3, 0, none⟩) n n) = w2 at *
  rintro e w3 ⟨cs', rfl, eb, r3, d3, b3⟩
  have hs3 := b3.size
  have R3 := Lib.hid r3
  have D3 := Lib.hid d3
  have EB := Lib.hid eb
  have Q2 := (b3.block (w.heap.size + 1 + 1) (by omega)).trans P2.out
  have Q1 := (b3.block (w.heap.size + 1) (by omega)).trans P1.out
  have Q0 := (b3.block w.heap.size (by omega)).trans P0.out
  have B3 := Lib.hid (bT BP.out b3)
  have S3 := Lib.hid (R2.out.below b3)
  clear r3 d3 eb b3 P0 P1 P2 BP R2
  obtain ⟨x0, x1, x2, x3, x4, x5, xF, xL⟩ := six_cells Q0
  obtain ⟨y0, y1, y2, y3, y4, y5, yF, yL⟩ := six_cells Q1
  obtain ⟨z0, z1, z2, z3, z4, z5, zF, zL⟩ := six_cells Q2
  clear Q0 Q1 Q2
  have FIN : Hid (∀ W, (∃ u3 u4 u5 a0 a1 a2 a3 a4 a5, W = ((((((((w3.setCell ⟨w.heap.size + 1 + 1, 3, none⟩ u3).setCell ⟨w.heap.size + 1 + 1, 4, none⟩ u4).setCell ⟨w.heap.size + 1 + 1, 5, none⟩ u5).setCell ⟨w.heap.size + 1, 0, none⟩ a0).setCell ⟨w.heap.size + 1, 1, none⟩ a1).setCell ⟨w.heap.size + 1, 2, none⟩ a2).setCell ⟨w.heap.size + 1, 3, none⟩ a3).setCell ⟨w.heap.size + 1, 4, none⟩ a4).setCell ⟨w.heap.size + 1, 5, none⟩ a5) → ∃ b1 b2 cs'', (Ending.returned (AV v h (some ⟨w.heap.size + 3, 0, none⟩) n n (some ⟨w2.heap.size, 0, none⟩) k k st cd)) = .returned (AV v h (some ⟨b1, 0, none⟩) n n (some ⟨b2, 0, none⟩) k k st cd) ∧ bareC cs'' = bareC cs ∧ Row2 W b1 n pl ∧ Cls W (some ⟨b2, 0, none⟩) cs'' ∧ Below w.heap.size w W) := by
    rintro W ⟨u3, u4, u5, a0, a1, a2, a3, a4, a5, rfl⟩
    refine ⟨w.heap.size + 3, w2.heap.size, cs', rfl, EB.out, ?_, ?_, ?_⟩
    · exact ((((((((S3.out.setLow (by omega) _ _).setLow (by omega) _ _).setLow (by omega) _ _).setLow (by omega) _ _).setLow (by omega) _ _).setLow (by omega) _ _).setLow (by omega) _ _).setLow (by omega) _ _).setLow (by omega) _ _
    · exact (((((((((R3.out.setLow (by omega) _ _).setLow (by omega) _ _).setLow (by omega) _ _).setLow (by omega) _ _).setLow (by omega) _ _).setLow (by omega) _ _).setLow (by omega) _ _).setLow (by omega) _ _).setLow (by omega) _ _).cls (fun r hr => ((((((((((D3.out r hr).set (by omega) _ _).set (by omega) _ _).set (by omega) _ _).set (by omega) _ _).set (by omega) _ _).set (by omega) _ _).set (by omega) _ _).set (by omega) _ _).set (by omega) _ _))
    · exact ((((((((B3.out.setCell (show w.heap.size ≤ w.heap.size + 1 + 1 by omega) _).setCell (show w.heap.size ≤ w.heap.size + 1 + 1 by omega) _).setCell (show w.heap.size ≤ w.heap.size + 1 + 1 by omega) _).setCell (show w.heap.size ≤ w.heap.size + 1 by omega) _).setCell (show w.heap.size ≤ w.heap.size + 1 by omega) _).setCell (show w.heap.size ≤ w.heap.size + 1 by omega) _).setCell (show w.heap.size ≤ w.heap.size + 1 by omega) _).setCell (show w.heap.size ≤ w.heap.size + 1 by omega) _).setCell (show w.heap.size ≤ w.heap.size + 1 by omega) _
  clear R3 D3 EB B3 S3 hsz hs3
  go_wp2
  refine bodyPost_ret (v := AV v h (some ⟨w.heap.size + 3, 0, none⟩) n n (some ⟨w2.heap.size, 0, none⟩) k k st cd) (by simp [results, Tryd.results12, go_sem, y0, y1, y2, y3, y4, y5]) rfl (FIN.out _ ⟨_, _, _, _, _, _, _, _, _, rfl⟩)
set_option maxRecDepth 100000 in
set_option maxHeartbeats 2000000 in
theorem eqA_any (v h : Int) (b1 b2 d1 d2 n k : Nat) (pl : List LPl) (cs1 cs2 : List LCl) (st cd : Int) (w : World) (hn : pl.length = n) (hk : cs1.length = k) (hn1 : n ≤ 1048576) (hk1 : k ≤ 1048576) (he : bareC cs1 = bareC cs2) (p1 : Row2 w b1 n pl) (p2 : Row2 w d1 n pl) (z1 : Cls w (some ⟨b2, 0, none⟩) cs1) (z2 : Cls w (some ⟨d2, 0, none⟩) cs2) :
    Calls Tryd.prog 14 #[AV v h (some ⟨b1, 0, none⟩) n n (some ⟨b2, 0, none⟩) k k st cd, AV v h (some ⟨d1, 0, none⟩) n n (some ⟨d2, 0, none⟩) k k st cd] w fun e w' => e = .returned (.bool true) ∧ Below w.heap.size w w' := by
  have E1 : Hid (∀ W, Below w.heap.size w W → Calls Tryd.prog 9 #[.slice (some ⟨b1, 0, none⟩) n n, .slice (some ⟨d1, 0, none⟩) n n] W fun e w' => e = .returned (.bool true) ∧ Below W.heap.size W w') := fun W hW => by
    have := eqPlS_any (some ⟨b1, 0, none⟩) (some ⟨d1, 0, none⟩) n n pl W (by omega) (p1.below hW).pls (p2.below hW).pls
    rwa [hn] at this
  have hk2 : cs2.length = k := by rw [← bareC_len he]; exact hk
  have E2 : Hid (∀ W, Below w.heap.size w W → Calls Tryd.prog 26 #[.slice (some ⟨b2, 0, none⟩) k k, .slice (some ⟨d2, 0, none⟩) k k] W fun e w' => e = .returned (.bool true) ∧ Below W.heap.size W w') := fun W hW => by
    have := eqL_any (some ⟨b2, 0, none⟩) (some ⟨d2, 0, none⟩) k k cs1 cs2 W (by omega) he (z1.below hW) (z2.below hW)
    rwa [hk, hk2] at this
  have B0 := Lib.hid (bA (bA0 w (.cells #[.int .i64 v, .int .i64 h, .slice (some ⟨b1, 0, none⟩) n n, .slice (some ⟨b2, 0, none⟩) k k, .int .i64 st, .int .i64 cd] 35)) (.cells #[.int .i64 v, .int .i64 h, .slice (some ⟨d1, 0, none⟩) n n, .slice (some ⟨d2, 0, none⟩) k k, .int .i64 st, .int .i64 cd] 35))
  have N0 := Lib.hid (new_at w (.cells #[.int .i64 v, .int .i64 h, .slice (some ⟨b1, 0, none⟩) n n, .slice (some ⟨b2, 0, none⟩) k k, .int .i64 st, .int .i64 cd] 35))
  have N1 := Lib.hid (new_at (w.alloc (.cells #[.int .i64 v, .int .i64 h, .slice (some ⟨b1, 0, none⟩) n n, .slice (some ⟨b2, 0, none⟩) k k, .int .i64 st, .int .i64 cd] 35)) (.cells #[.int .i64 v, .int .i64 h, .slice (some ⟨d1, 0, none⟩) n n, .slice (some ⟨d2, 0, none⟩) k k, .int .i64 st, .int .i64 cd] 35))
  have M0 := Lib.hid (((bA0 (w.alloc (.cells #[.int .i64 v, .int .i64 h, .slice (some ⟨b1, 0, none⟩) n n, .slice (some ⟨b2, 0, none⟩) k k, .int .i64 st, .int .i64 cd] 35)) (.cells #[.int .i64 v, .int .i64 h, .slice (some ⟨d1, 0, none⟩) n n, .slice (some ⟨d2, 0, none⟩) k k, .int .i64 st, .int .i64 cd] 35)).block w.heap.size (by simp)).trans N0.out)
  have hsz : (w.alloc (.cells #[.int .i64 v, .int .i64 h, .slice (some ⟨b1, 0, none⟩) n n, .slice (some ⟨b2, 0, none⟩) k k, .int .i64 st, .int .i64 cd] 35)).heap.size = w.heap.size + 1 := by simp
  rw [hsz] at N1
  clear hsz N0 he p1 p2 z1 z2
  go_enter Tryd.func14, Tryd.ntmps14
  go_wp2_with fail
  refine (E1.out _ B0.out).mono ?_
  generalize (w.alloc (.cells #[.int .i64 v, .int .i64 h, .slice (some ⟨b1, 0, none⟩) n n, .slice (some ⟨b2, 0, none⟩) k k, .int .i64 st, .int .i64 cd] 35)).alloc (.cells #[.int .i64 v, .int .i64 h, .slice (some ⟨d1, 0, none⟩) n n, .slice (some ⟨d2, 0, none⟩) k k, .int .i64 st, .int .i64 cd] 35) = w0 at *
  rintro e w1 ⟨rfl, b1'⟩
  obtain ⟨-, -, -, -, -, -, -, l0⟩ := six_cells M0.out
  obtain ⟨-, -, -, -, -, -, -, l1⟩ := six_cells N1.out
  have M1 := Lib.hid ((b1'.block _ l0).trans M0.out)
  have O1 := Lib.hid ((b1'.block _ l1).trans N1.out)
  have D1 := Lib.hid (bT B0.out b1')
  obtain ⟨x0, x1, x2, x3, x4, x5, xF, xL⟩ := six_cells M1.out
  obtain ⟨y0, y1, y2, y3, y4, y5, yF, yL⟩ := six_cells O1.out
  go_wp2_with fail
  refine (E2.out _ D1.out).mono ?_
  rintro e w2 ⟨rfl, b2'⟩
  have D2 := Lib.hid (bT D1.out b2')
  have M2 := (b2'.block _ xL).trans M1.out
  have O2 := (b2'.block _ yL).trans O1.out
  clear x0 x1 x2 x3 x4 x5 xF xL y0 y1 y2 y3 y4 y5 yF yL
  obtain ⟨x0, x1, x2, x3, x4, x5, xF, xL⟩ := six_cells M2
  obtain ⟨y0, y1, y2, y3, y4, y5, yF, yL⟩ := six_cells O2
  go_wp2
  go_ret
  exact ⟨rfl, D2.out⟩
end Go.Proofs.YtllaiigjkchahaaDoor
