/-
  THE LAWS' LISTS OF BIDS: their sizes, copies, and how they are held against each other.
-/
import Derived.Test.YtanoklpffenljaaGreatDoorAo
import Derived.Test.YtanoklpffenljaaGreatDoorAp
namespace Go.Proofs.YtanoklpffenljaaGreatDoor
open Go.RowKit
set_option linter.unusedVariables false

set_option maxHeartbeats 400000 in
theorem szB_any (sl : Option Addr) (n cap : Nat) (m : Int) (w : World) (hn : n ≤ maxLen) (h0 : 0 ≤ m) (h1 : m ≤ 1048576) :
    Calls Tryz.prog 19 #[.slice sl n cap, .int .i64 m] w fun e w' => e = .returned (.int .i64 (lft m n)) ∧ Below w.heap.size w w' := by
  unfold maxLen at hn
  unfold lft
  by_cases h : m - n < 0
  · rw [if_pos h]
    go_enter Tryz.func19, Tryz.ntmps19
    go_wp2
    go_ret
    exact ⟨rfl, Below.refl _ _⟩
  · rw [if_neg h]
    go_enter Tryz.func19, Tryz.ntmps19
    go_wp2
    go_ret
    exact ⟨rfl, Below.refl _ _⟩
set_option maxRecDepth 100000 in
set_option maxHeartbeats 1000000 in
theorem toBd_any (a b q : Int) (w : World) : Calls Tryz.prog 59 #[.agg #[.int .i64 a, .int .i64 b, .int .i64 q]] w fun e w' => e = .returned (.agg #[.int .i64 a, .int .i64 b, .int .i64 q]) ∧ Below w.heap.size w w' := by
  go_enter Tryz.func59, Tryz.ntmps59
  go_wp2
  exact bodyPost_ret (v := .agg #[.int .i64 a, .int .i64 b, .int .i64 q]) (by simp [results, Tryz.results59, go_sem]) rfl ⟨rfl, bA (bA (bA0 _ _) _) _⟩
theorem infoBd : (Tryz.prog.info? 58).map (fun i => (i.zero, i.size, i.bytes)) = some (some (.agg #[.int .i64 0, .int .i64 0, .int .i64 0]), 3, 24) := by kernel_rfl
theorem makeBd (n : Nat) (h : n ≤ 1048576) (w : World) :
    ∃ vs : Array Value, Sem.run Tryz.prog (Instr.makeSlice 36 (.int .i64 (n : Int)) (.int .i64 (n : Int))) w = .ok (.slice (some ⟨w.heap.size, 0, none⟩) n n) (w.alloc (.cells vs 58)) ∧ Row3 (w.alloc (.cells vs 58)) w.heap.size 58 n [] := by
  obtain ⟨i, h1, h2, h3, h4⟩ := info_parts infoBd
  have := run_make (P := Tryz.prog) w 36 58 i _ Tryz.underlying36 h1 h2 .i64 .i64 (n : Int) (n : Int) (by omega) (Int.le_refl _) (by rw [h4]; omega) (by omega)
  rw [h3] at this
  simp only [Int.toNat_natCast] at this
  exact ⟨_, this, _, new_at _ _, size_madeCells _ _, fun i hi => absurd hi (Nat.not_lt_zero _)⟩
set_option maxRecDepth 100000 in
set_option maxHeartbeats 1000000 in
theorem toBS_any (sl : Option Addr) (cap : Nat) (ps : List LPr) (w : World) (hn : ps.length ≤ 1048576) (hz : Prs w sl ps) :
    Calls Tryz.prog 26 #[.slice sl ps.length cap] w fun e w' => e = .returned (.slice (some ⟨w.heap.size, 0, none⟩) ps.length ps.length) ∧ Row3 w' w.heap.size 58 ps.length (ps.map prT) ∧ Below w.heap.size w w' := by
  have HZ := Lib.hid hz
  clear hz
  obtain ⟨vs, hmk, hr0⟩ := makeBd ps.length hn w
  have R0 := Lib.hid hr0
  clear hr0
  generalize hN : ps.length = n at *
  have HN := Lib.hid hN
  clear hN
  go_enter Tryz.func26, Tryz.ntmps26
  go_wp2
  go_loopw [4] (fun i wr => ∃ k : Nat, i = .int .i64 k ∧ k ≤ n ∧ Hid (Row3 wr w.heap.size 58 n ((ps.take k).map prT)) ∧ Hid (Below w.heap.size w wr)) (fun i _ => n - (intOf i).toNat)
  case atStart => exact ⟨0, rfl, Nat.zero_le _, R0, bA0 _ _⟩
  case round =>
    obtain ⟨k, rfl, hk, R1, H2⟩ := hrel
    have hk0 : (0 : Int) ≤ (k : Int) := by omega
    by_cases c1 : k < n
    · have c1' : (k : Int) < (n : Int) := by omega
      have hlt : k < ps.length := by rw [HN.out]; exact c1
      obtain ⟨c, o, rfl, Z0⟩ : ∃ c o, sl = some ⟨c, o, none⟩ ∧ PrAt w c o ps := by
        rcases HZ.out with e | h
        · rw [e] at hlt; simp at hlt
        · exact h
      have hc0 := (H2.out.cell Z0.lt).trans (Z0.cell k hlt).1
      have hc1 := (H2.out.cell Z0.lt).trans (Z0.cell k hlt).2.1
      have hc2 := (H2.out.cell Z0.lt).trans (Z0.cell k hlt).2.2
      obtain ⟨a, b, q, hp⟩ : ∃ a b q, ps[k] = (a, b, q) := ⟨_, _, _, rfl⟩
      rw [hp] at hc0 hc1 hc2
      dsimp only at hc0 hc1 hc2
      have ET := Lib.hid (show (ps.take (k + 1)).map prT = (ps.take k).map prT ++ [(.int .i64 a, .int .i64 b, .int .i64 q)] by
        rw [List.take_add_one, List.getElem?_eq_getElem hlt, hp]; simp [prT])
      have LT := Lib.hid (show k = ((ps.take k).map prT).length by simp; omega)
      have LN := Lib.hid (show ((ps.take k).map prT).length < n by rw [← LT.out]; exact c1)
      have E := Lib.hid (toBd_any a b q)
      clear hp hlt
      go_wp2_with fail
      refine (E.out _).mono ?_
      rintro e w5 ⟨rfl, b5⟩
      have D5 := Lib.hid (bT H2.out b5)
      have R5 := Lib.hid (R1.out.below b5)
      obtain ⟨⟨v0, g0⟩, f0⟩ := R5.out.there (k * 3) (by omega)
      obtain ⟨⟨v1, g1⟩, f1⟩ := R5.out.there (k * 3 + 1) (by omega)
      obtain ⟨⟨v2, g2⟩, f2⟩ := R5.out.there (k * 3 + 2) (by omega)
      have R6 := Lib.hid (R5.out.step LN.out (.int .i64 a) (.int .i64 b) (.int .i64 q) k LT.out)
      rw [← ET.out] at R6
      have D6 : Hid (Below w.heap.size w (((w5.setCell ⟨w.heap.size, k * 3, none⟩ (.int .i64 a)).setCell ⟨w.heap.size, k * 3 + 1, none⟩ (.int .i64 b)).setCell ⟨w.heap.size, k * 3 + 2, none⟩ (.int .i64 q))) := ((D5.out.setCell (Nat.le_refl _) _).setCell (Nat.le_refl _) _).setCell (Nat.le_refl _) _
      clear b5 R1 R5 ET LT LN
      go_wp2_with fail
      go_roundw
      case rel => exact ⟨k + 1, by go_num, by omega, R6, D6⟩
      case measure => simp [intOf]; omega
    · have c1' : ¬ (k : Int) < (n : Int) := by omega
      have P := Lib.hid (show Row3 wr w.heap.size 58 n (ps.map prT) by have := R1.out; rwa [List.take_of_length_le (by rw [HN.out]; omega)] at this)
      go_wp2
      go_ret
      exact ⟨rfl, P.out, H2.out⟩
theorem Row3.prsB {w : World} {b n : Nat} {ps : List LPr} (h : Row3 w b 58 n (ps.map prT)) : Prs w (some ⟨b, 0, none⟩) ps := by
  refine .inr ⟨b, 0, rfl, h.lt, fun i hi => ?_⟩
  have := h.at i (by simpa using hi)
  simpa [prT] using this

set_option maxRecDepth 100000 in
set_option maxHeartbeats 1000000 in
theorem eqBd_any (a b q : Int) (w : World) : Calls Tryz.prog 75 #[.agg #[.int .i64 a, .int .i64 b, .int .i64 q], .agg #[.int .i64 a, .int .i64 b, .int .i64 q]] w fun e w' => e = .returned (.bool true) ∧ Below w.heap.size w w' := by
  go_enter Tryz.func75, Tryz.ntmps75
  go_wp2
  go_ret
  exact ⟨rfl, bA (bA0 _ _) _⟩
set_option maxRecDepth 100000 in
set_option maxHeartbeats 2000000 in
theorem eqBS_any (sl sl' : Option Addr) (cap cap' : Nat) (ps : List LPr) (w : World) (hn : ps.length ≤ 1048576) (h : Prs w sl ps) (h' : Prs w sl' ps) :
    Calls Tryz.prog 32 #[.slice sl ps.length cap, .slice sl' ps.length cap'] w fun e w' => e = .returned (.bool true) ∧ Below w.heap.size w w' := by
  have H := Lib.hid h
  have H' := Lib.hid h'
  clear h h'
  generalize hN : ps.length = n at *
  have HN := Lib.hid hN
  clear hN
  go_enter Tryz.func32, Tryz.ntmps32
  go_wp2
  go_loopw [5] (fun i wr => ∃ j : Nat, i = .int .i64 j ∧ j ≤ n ∧ Hid (Below w.heap.size w wr)) (fun i _ => n - (intOf i).toNat)
  case atStart => exact ⟨0, rfl, Nat.zero_le _, Below.refl _ _⟩
  case round =>
    obtain ⟨j, rfl, hj, H2⟩ := hrel
    have hj0 : (0 : Int) ≤ (j : Int) := by omega
    by_cases h1 : j < n
    · have h1' : (j : Int) < (n : Int) := by omega
      have hlt : j < ps.length := by rw [HN.out]; exact h1
      obtain ⟨g, o, rfl, Z0⟩ : ∃ c o, sl = some ⟨c, o, none⟩ ∧ PrAt w c o ps := by
        rcases H.out with e | h
        · rw [e] at hlt; simp at hlt
        · exact h
      obtain ⟨g', o', rfl, Z0'⟩ : ∃ c o, sl' = some ⟨c, o, none⟩ ∧ PrAt w c o ps := by
        rcases H'.out with e | h
        · rw [e] at hlt; simp at hlt
        · exact h
      obtain ⟨c0, c1, c2⟩ := (Z0.below H2.out).cell j hlt
      obtain ⟨d0, d1, d2⟩ := (Z0'.below H2.out).cell j hlt
      have hgl := (Z0.below H2.out).lt
      have hgl' := (Z0'.below H2.out).lt
      obtain ⟨x, y, q, hp⟩ : ∃ a b q, ps[j] = (a, b, q) := ⟨_, _, _, rfl⟩
      rw [hp] at c0 c1 c2 d0 d1 d2
      dsimp only at c0 c1 c2 d0 d1 d2
      have E : Hid (∀ W, Below wr.heap.size wr W → Calls Tryz.prog 75 #[.agg #[.int .i64 x, .int .i64 y, .int .i64 q], .agg #[.int .i64 x, .int .i64 y, .int .i64 q]] W fun e w' => e = .returned (.bool true) ∧ Below W.heap.size W w') := fun W _ => eqBd_any x y q W
      have KB : Hid (∀ W, Below wr.heap.size wr W → g < W.heap.size ∧ g' < W.heap.size ∧ W.cell? ⟨g, o + j * 3, none⟩ = some (.int .i64 x) ∧ W.cell? ⟨g, o + j * 3 + 1, none⟩ = some (.int .i64 y) ∧ W.cell? ⟨g, o + j * 3 + 2, none⟩ = some (.int .i64 q) ∧ W.cell? ⟨g', o' + j * 3, none⟩ = some (.int .i64 x) ∧ W.cell? ⟨g', o' + j * 3 + 1, none⟩ = some (.int .i64 y) ∧ W.cell? ⟨g', o' + j * 3 + 2, none⟩ = some (.int .i64 q)) := fun W hW => ⟨Nat.lt_of_lt_of_le hgl hW.size, Nat.lt_of_lt_of_le hgl' hW.size, (hW.cell hgl).trans c0, (hW.cell hgl).trans c1, (hW.cell hgl).trans c2, (hW.cell hgl').trans d0, (hW.cell hgl').trans d1, (hW.cell hgl').trans d2⟩
      clear hp hlt Z0 Z0'
      go_wp2_with fail
      refine wp_region_held_drew (S := fun W => g < W.heap.size ∧ g' < W.heap.size ∧ W.cell? ⟨g, o + j * 3, none⟩ = some (.int .i64 x) ∧ W.cell? ⟨g, o + j * 3 + 1, none⟩ = some (.int .i64 y) ∧ W.cell? ⟨g, o + j * 3 + 2, none⟩ = some (.int .i64 q) ∧ W.cell? ⟨g', o' + j * 3, none⟩ = some (.int .i64 x) ∧ W.cell? ⟨g', o' + j * 3 + 1, none⟩ = some (.int .i64 y) ∧ W.cell? ⟨g', o' + j * 3 + 2, none⟩ = some (.int .i64 q)) (by kernel_rfl) ?_ (fun hHeld => ?_)
      · exact KB.out _ (Below.refl _ _).drew
      refine wpAnyH_take (i := 0) (oi := _) (v := ?_) rfl (by kernel_rfl) (by kernel_rfl) (by kernel_rfl) (fun _ _ _ h => h) (Or.inl ⟨by rfl, ?_⟩) (by assumption) ?_
      rotate_left
      · first | (intro w hSw; (try dsimp only at hSw); go_simp; done) | (intro w hSw; (try dsimp only at hSw); go_simp; with_reducible rfl)
      try simp only [Act.put, List.setIfInBounds_toArray, List.set_cons_zero, List.set_cons_succ, List.getElem_toArray, List.getElem_cons_zero]
      refine wpAnyH_take (i := 1) (oi := _) (v := ?_) rfl (by kernel_rfl) (by kernel_rfl) (by kernel_rfl) (fun _ _ _ h => h) (Or.inl ⟨by rfl, ?_⟩) (by assumption) ?_
      rotate_left
      · first | (intro w hSw; (try dsimp only at hSw); go_simp; done) | (intro w hSw; (try dsimp only at hSw); go_simp; with_reducible rfl)
      try simp only [Act.put, List.setIfInBounds_toArray, List.set_cons_zero, List.set_cons_succ, List.getElem_toArray, List.getElem_cons_succ, List.getElem_cons_zero]
      refine wpAnyH_take (i := 2) (oi := _) (v := ?_) rfl (by kernel_rfl) (by kernel_rfl) (by kernel_rfl) (fun _ _ _ h => h) (Or.inl ⟨by rfl, ?_⟩) (by assumption) ?_
      rotate_left
      · first | (intro w hSw; (try dsimp only at hSw); go_simp; done) | (intro w hSw; (try dsimp only at hSw); go_simp; with_reducible rfl)
      try simp only [Act.put, List.setIfInBounds_toArray, List.set_cons_zero, List.set_cons_succ, List.getElem_toArray, List.getElem_cons_succ, List.getElem_cons_zero]
      refine wpAnyH_take (i := 3) (oi := _) (v := ?_) rfl (by kernel_rfl) (by kernel_rfl) (by kernel_rfl) (fun _ _ _ h => h) (Or.inl ⟨by rfl, ?_⟩) (by assumption) ?_
      rotate_left
      · first | (intro w hSw; (try dsimp only at hSw); go_simp; done) | (intro w hSw; (try dsimp only at hSw); go_simp; with_reducible rfl)
      try simp only [Act.put, List.setIfInBounds_toArray, List.set_cons_zero, List.set_cons_succ, List.getElem_toArray, List.getElem_cons_succ, List.getElem_cons_zero]
      refine wpAnyH_take (i := 4) (oi := _) (v := ?_) rfl (by kernel_rfl) (by kernel_rfl) (by kernel_rfl) (fun _ _ _ h => h) (Or.inl ⟨by rfl, ?_⟩) (by assumption) ?_
      rotate_left
      · first | (intro w hSw; (try dsimp only at hSw); go_simp; done) | (intro w hSw; (try dsimp only at hSw); go_simp; with_reducible rfl)
      try simp only [Act.put, List.setIfInBounds_toArray, List.set_cons_zero, List.set_cons_succ, List.getElem_toArray, List.getElem_cons_succ, List.getElem_cons_zero]
      refine wpAnyH_take (i := 5) (oi := _) (v := ?_) rfl (by kernel_rfl) (by kernel_rfl) (by kernel_rfl) (fun _ _ _ h => h) (Or.inl ⟨by rfl, ?_⟩) (by assumption) ?_
      rotate_left
      · first | (intro w hSw; (try dsimp only at hSw); go_simp; done) | (intro w hSw; (try dsimp only at hSw); go_simp; with_reducible rfl)
      try simp only [Act.put, List.setIfInBounds_toArray, List.set_cons_zero, List.set_cons_succ, List.getElem_toArray, List.getElem_cons_succ, List.getElem_cons_zero]
      refine wpAnyH_take (i := 6) (oi := _) (v := ?_) rfl (by kernel_rfl) (by kernel_rfl) (by kernel_rfl) (fun _ _ _ h => h) (Or.inl ⟨by rfl, ?_⟩) (by assumption) ?_
      rotate_left
      · first | (intro w hSw; (try dsimp only at hSw); go_simp; done) | (intro w hSw; (try dsimp only at hSw); go_simp; with_reducible rfl)
      try simp only [Act.put, List.setIfInBounds_toArray, List.set_cons_zero, List.set_cons_succ, List.getElem_toArray, List.getElem_cons_succ, List.getElem_cons_zero]
      refine wpAnyH_take (i := 7) (oi := _) (v := ?_) rfl (by kernel_rfl) (by kernel_rfl) (by kernel_rfl) (fun _ _ _ h => h) (Or.inl ⟨by rfl, ?_⟩) (by assumption) ?_
      rotate_left
      · first | (intro w hSw; (try dsimp only at hSw); go_simp; done) | (intro w hSw; (try dsimp only at hSw); go_simp; with_reducible rfl)
      try simp only [Act.put, List.setIfInBounds_toArray, List.set_cons_zero, List.set_cons_succ, List.getElem_toArray, List.getElem_cons_succ, List.getElem_cons_zero]
      refine wpAnyH_ready (rs := [8]) (by kernel_rfl) (by simp) ?_
      refine AllReadyH.cons rfl (fun K hK => ?_) AllReadyH.nil
      go_simp
      go_wp2_with (go_at_call 75; refine (E.out _ (by first | exact Below.refl _ _ | exact (Below.refl _ _).drew | exact Go.below_drewN (Below.refl _ _) _)).mono ?_; rintro e w5 ⟨rfl, b5⟩)
      have D5 : Hid (Below wr.heap.size wr w5) := bT ((Below.refl wr.heap.size wr).drew) b5
      clear b5
      refine hK.out _ _ ?_ (fun hHeld => ?_)
      · exact KB.out _ D5.out
      clear hK K
      refine wpAnyH_take (i := 9) (oi := _) (v := ?_) rfl (by kernel_rfl) (by kernel_rfl) (by kernel_rfl) (fun _ _ _ h => h) (Or.inl ⟨by rfl, ?_⟩) (by assumption) ?_
      rotate_left
      · first | (intro w hSw; (try dsimp only at hSw); go_simp; done) | (intro w hSw; (try dsimp only at hSw); go_simp; with_reducible rfl)
      try simp only [Act.put, List.setIfInBounds_toArray, List.set_cons_zero, List.set_cons_succ, List.getElem_toArray, List.getElem_cons_succ, List.getElem_cons_zero]
      refine wpAnyH_done (by kernel_rfl) ?_ _
      have BQ5 := Lib.hid (bT H2.out D5.out)
      clear D5 KB E c0 c1 c2 d0 d1 d2
      go_wp2_with fail
      go_roundw
      case rel => exact ⟨j + 1, by go_num, by omega, BQ5⟩
      case measure => simp [intOf]; omega
    · have h1' : ¬ (j : Int) < (n : Int) := by omega
      go_wp2
      go_ret
      exact ⟨rfl, H2.out⟩


end Go.Proofs.YtanoklpffenljaaGreatDoor
