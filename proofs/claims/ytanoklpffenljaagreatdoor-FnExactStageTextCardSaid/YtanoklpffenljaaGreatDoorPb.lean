/-
  THE LAWS' PLANS: measured, copied, held against each other, marked.
-/
import Derived.Test.YtanoklpffenljaaGreatDoorPa
import Derived.Test.YtanoklpffenljaaGreatDoorAp
import Derived.Test.YtanoklpffenljaaGreatDoorAz
namespace Go.Proofs.YtanoklpffenljaaGreatDoor
open Go.RowKit
set_option linter.unusedVariables false

set_option maxHeartbeats 400000 in
theorem szPl_any (sl : Option Addr) (n cap : Nat) (m : Int) (w : World) (hn : n ≤ maxLen) (h0 : 0 ≤ m) (h1 : m ≤ 1048576) :
    Calls Tryz.prog 20 #[.slice sl n cap, .int .i64 m] w fun e w' => e = .returned (.int .i64 (lft m n)) ∧ w' = w := by
  unfold maxLen at hn
  unfold lft
  by_cases c : m - (n : Int) < 0
  · rw [if_pos c]
    go_enter Tryz.func20, Tryz.ntmps20
    go_wp2
    go_ret
    exact ⟨rfl, rfl⟩
  · rw [if_neg c]
    go_enter Tryz.func20, Tryz.ntmps20
    go_wp2
    go_ret
    exact ⟨rfl, rfl⟩

set_option maxRecDepth 100000 in
set_option maxHeartbeats 1000000 in
theorem toPl_any (a b : Int) (w : World) : Calls Tryz.prog 60 #[.agg #[.int .i64 a, .int .i64 b]] w fun e w' => e = .returned (.agg #[.int .i64 a, .int .i64 b]) ∧ Below w.heap.size w w' := by
  go_enter Tryz.func60, Tryz.ntmps60
  go_wp2
  exact bodyPost_ret (v := .agg #[.int .i64 a, .int .i64 b]) (by simp [results, Tryz.results60, go_sem]) rfl ⟨rfl, bA (bA (bA0 _ _) _) _⟩

/-- A row of places, the first of them written. -/
def Row2 (w : World) (b : Nat) (n : Nat) (ts : List LPl) : Prop :=
  ∃ vs : Array Value, w.heap[b]? = some (.cells vs 97) ∧ vs.size = n * 2 ∧ ∀ i (h : i < ts.length), vs[i * 2]? = some (.int .i64 ts[i].1) ∧ vs[i * 2 + 1]? = some (.int .i64 ts[i].2)
theorem Row2.lt {w : World} {b : Nat} {n : Nat} {ts : List LPl} (h : Row2 w b n ts) : b < w.heap.size := by
  obtain ⟨vs, h1, _⟩ := h
  exact (Array.getElem?_eq_some_iff.1 h1).1
theorem Row2.below {w w' : World} {b : Nat} {n : Nat} {ts : List LPl} (h : Row2 w b n ts) (hb : Below w.heap.size w w') : Row2 w' b n ts := by
  have hl := h.lt
  obtain ⟨vs, h1, h2, h3⟩ := h
  exact ⟨vs, (hb.block b hl).trans h1, h2, h3⟩
theorem Row2.there {w : World} {b : Nat} {n : Nat} {ts : List LPl} (h : Row2 w b n ts) (j : Nat) (hj : j < n * 2) : (∃ v, w.cell? ⟨b, j, none⟩ = some v) ∧ w.frozen? ⟨b, j, none⟩ = false := by
  obtain ⟨vs, h1, h2, h3⟩ := h
  exact ⟨⟨vs[j]'(by omega), by simp [World.cell?, h1, show j < vs.size by omega]⟩, by simp [World.frozen?, h1]⟩
theorem Row2.pls {w : World} {b n : Nat} {ts : List LPl} (h : Row2 w b n ts) : Pls w (some ⟨b, 0, none⟩) ts := by
  have hl := h.lt
  obtain ⟨vs, h1, h2, h3⟩ := h
  refine .inr ⟨b, 0, rfl, hl, fun i hi => ?_⟩
  have := h3 i hi
  constructor <;> simp [World.cell?, h1, this]
theorem Row2.step {w : World} {b : Nat} {n : Nat} {ts : List LPl} (h : Row2 w b n ts) (hl : ts.length < n) (x y : Int) (k : Nat) (hk : k = ts.length) :
    Row2 ((w.setCell ⟨b, k * 2, none⟩ (.int .i64 x)).setCell ⟨b, k * 2 + 1, none⟩ (.int .i64 y)) b n (ts ++ [(x, y)]) := by
  subst hk
  obtain ⟨vs, h1, h2, h3⟩ := h
  refine ⟨_, heap_setCell_same _ b _ _ 97 _ (heap_setCell_same w b _ vs 97 _ h1), by simp [h2], fun i hi => ?_⟩
  simp only [List.length_append, List.length_singleton] at hi
  by_cases e : i < ts.length
  · obtain ⟨a1, a2⟩ := h3 i e
    simp only [List.getElem_append_left e]
    refine ⟨?_, ?_⟩
    · rw [Array.getElem?_setIfInBounds_ne (by omega), Array.getElem?_setIfInBounds_ne (by omega)]; exact a1
    · rw [Array.getElem?_setIfInBounds_ne (by omega), Array.getElem?_setIfInBounds_ne (by omega)]; exact a2
  · have e' : i = ts.length := by omega
    subst e'
    simp only [List.getElem_append_right (Nat.le_refl _), Nat.sub_self, List.getElem_cons_zero]
    refine ⟨?_, ?_⟩
    · rw [Array.getElem?_setIfInBounds_ne (by omega), Array.getElem?_setIfInBounds_self_of_lt (by omega)]
    · rw [Array.getElem?_setIfInBounds_self_of_lt (by simp; omega)]
theorem info44 : (Tryz.prog.info? 97).map (fun i => (i.zero, i.size, i.bytes)) = some (some (.agg #[.int .i64 0, .int .i64 0]), 2, 16) := by kernel_rfl
theorem make44 (n : Nat) (h : n ≤ 1048576) (w : World) :
    ∃ vs : Array Value, Sem.run Tryz.prog (Instr.makeSlice 37 (.int .i64 (n : Int)) (.int .i64 (n : Int))) w = .ok (.slice (some ⟨w.heap.size, 0, none⟩) n n) (w.alloc (.cells vs 97)) ∧ Row2 (w.alloc (.cells vs 97)) w.heap.size n [] := by
  obtain ⟨i, h1, h2, h3, h4⟩ := info_parts info44
  have := run_make (P := Tryz.prog) w 37 97 i _ Tryz.underlying37 h1 h2 .i64 .i64 (n : Int) (n : Int) (by omega) (Int.le_refl _) (by rw [h4]; omega) (by omega)
  rw [h3] at this
  simp only [Int.toNat_natCast] at this
  exact ⟨_, this, _, new_at _ _, size_madeCells _ _, fun i hi => absurd hi (Nat.not_lt_zero _)⟩

set_option maxRecDepth 100000 in
set_option maxHeartbeats 1000000 in
theorem toPlS_any (sl : Option Addr) (cap : Nat) (ps : List LPl) (w : World) (hn : ps.length ≤ 1048576) (hz : Pls w sl ps) :
    Calls Tryz.prog 27 #[.slice sl ps.length cap] w fun e w' => e = .returned (.slice (some ⟨w.heap.size, 0, none⟩) ps.length ps.length) ∧ Row2 w' w.heap.size ps.length ps ∧ Below w.heap.size w w' := by
  have HZ := Lib.hid hz
  clear hz
  obtain ⟨vs, hmk, hr0⟩ := make44 ps.length hn w
  have R0 := Lib.hid hr0
  clear hr0
  generalize hN : ps.length = n at *
  have HN := Lib.hid hN
  clear hN
  go_enter Tryz.func27, Tryz.ntmps27
  go_wp2
  go_loopw [4] (fun i wr => ∃ k : Nat, i = .int .i64 k ∧ k ≤ n ∧ Hid (Row2 wr w.heap.size n (ps.take k)) ∧ Hid (Below w.heap.size w wr)) (fun i _ => n - (intOf i).toNat)
  case atStart => exact ⟨0, rfl, Nat.zero_le _, R0, bA0 _ _⟩
  case round =>
    obtain ⟨k, rfl, hk, R1, H2⟩ := hrel
    have hk0 : (0 : Int) ≤ (k : Int) := by omega
    by_cases c1 : k < n
    · have c1' : (k : Int) < (n : Int) := by omega
      have hlt : k < ps.length := by rw [HN.out]; exact c1
      obtain ⟨c, o, rfl, Z0⟩ : ∃ c o, sl = some ⟨c, o, none⟩ ∧ PlAt w c o ps := by
        rcases HZ.out with e | h
        · rw [e] at hlt; simp at hlt
        · exact h
      have hc0 := (H2.out.cell Z0.lt).trans (Z0.cell k hlt).1
      have hc1 := (H2.out.cell Z0.lt).trans (Z0.cell k hlt).2
      obtain ⟨a, b, hp⟩ : ∃ a b, ps[k] = (a, b) := ⟨_, _, rfl⟩
      rw [hp] at hc0 hc1
      dsimp only at hc0 hc1
      have ET := Lib.hid (show ps.take (k + 1) = ps.take k ++ [(a, b)] by
        rw [List.take_add_one, List.getElem?_eq_getElem hlt, hp]; simp)
      have LT := Lib.hid (show k = (ps.take k).length by simp; omega)
      have LN := Lib.hid (show (ps.take k).length < n by rw [← LT.out]; exact c1)
      have E := Lib.hid (toPl_any a b)
      clear hp hlt
      go_wp2_with fail
      refine (E.out _).mono ?_
      rintro e w5 ⟨rfl, b5⟩
      have D5 := Lib.hid (bT H2.out b5)
      have R5 := Lib.hid (R1.out.below b5)
      obtain ⟨⟨v0, g0⟩, f0⟩ := R5.out.there (k * 2) (by omega)
      obtain ⟨⟨v1, g1⟩, f1⟩ := R5.out.there (k * 2 + 1) (by omega)
      have R6 := Lib.hid (R5.out.step LN.out a b k LT.out)
      rw [← ET.out] at R6
      have D6 : Hid (Below w.heap.size w ((w5.setCell ⟨w.heap.size, k * 2, none⟩ (.int .i64 a)).setCell ⟨w.heap.size, k * 2 + 1, none⟩ (.int .i64 b))) := (D5.out.setCell (Nat.le_refl _) _).setCell (Nat.le_refl _) _
      clear b5 R1 R5 ET LT LN
      go_wp2_with fail
      go_roundw
      case rel => exact ⟨k + 1, by go_num, by omega, R6, D6⟩
      case measure => simp [intOf]; omega
    · have c1' : ¬ (k : Int) < (n : Int) := by omega
      have P := Lib.hid (show Row2 wr w.heap.size n ps by have := R1.out; rwa [List.take_of_length_le (by rw [HN.out]; omega)] at this)
      go_wp2
      go_ret
      exact ⟨rfl, P.out, H2.out⟩

set_option maxRecDepth 100000 in
set_option maxHeartbeats 1000000 in
theorem eqPl_any (a b : Int) (w : World) : Calls Tryz.prog 76 #[.agg #[.int .i64 a, .int .i64 b], .agg #[.int .i64 a, .int .i64 b]] w fun e w' => e = .returned (.bool true) ∧ Below w.heap.size w w' := by
  go_enter Tryz.func76, Tryz.ntmps76
  go_wp2
  go_ret
  exact ⟨rfl, bA (bA0 _ _) _⟩

set_option maxRecDepth 100000 in
set_option maxHeartbeats 2000000 in
theorem eqPlS_any (sl sl' : Option Addr) (cap cap' : Nat) (ps : List LPl) (w : World) (hn : ps.length ≤ 1048576) (h : Pls w sl ps) (h' : Pls w sl' ps) :
    Calls Tryz.prog 33 #[.slice sl ps.length cap, .slice sl' ps.length cap'] w fun e w' => e = .returned (.bool true) ∧ Below w.heap.size w w' := by
  have H := Lib.hid h
  have H' := Lib.hid h'
  clear h h'
  generalize hN : ps.length = n at *
  have HN := Lib.hid hN
  clear hN
  go_enter Tryz.func33, Tryz.ntmps33
  go_wp2
  go_loopw [5] (fun i wr => ∃ j : Nat, i = .int .i64 j ∧ j ≤ n ∧ Hid (Below w.heap.size w wr)) (fun i _ => n - (intOf i).toNat)
  case atStart => exact ⟨0, rfl, Nat.zero_le _, Below.refl _ _⟩
  case round =>
    obtain ⟨j, rfl, hj, H2⟩ := hrel
    have hj0 : (0 : Int) ≤ (j : Int) := by omega
    by_cases h1 : j < n
    · have h1' : (j : Int) < (n : Int) := by omega
      have hlt : j < ps.length := by rw [HN.out]; exact h1
      obtain ⟨g, o, rfl, Z0⟩ : ∃ c o, sl = some ⟨c, o, none⟩ ∧ PlAt w c o ps := by
        rcases H.out with e | h
        · rw [e] at hlt; simp at hlt
        · exact h
      obtain ⟨g', o', rfl, Z0'⟩ : ∃ c o, sl' = some ⟨c, o, none⟩ ∧ PlAt w c o ps := by
        rcases H'.out with e | h
        · rw [e] at hlt; simp at hlt
        · exact h
      obtain ⟨c0, c1⟩ := (Z0.below H2.out).cell j hlt
      obtain ⟨d0, d1⟩ := (Z0'.below H2.out).cell j hlt
      have hgl := (Z0.below H2.out).lt
      have hgl' := (Z0'.below H2.out).lt
      obtain ⟨x, y, hp⟩ : ∃ a b, ps[j] = (a, b) := ⟨_, _, rfl⟩
      rw [hp] at c0 c1 d0 d1
      dsimp only at c0 c1 d0 d1
      have E : Hid (∀ W, Below wr.heap.size wr W → Calls Tryz.prog 76 #[.agg #[.int .i64 x, .int .i64 y], .agg #[.int .i64 x, .int .i64 y]] W fun e w' => e = .returned (.bool true) ∧ Below W.heap.size W w') := fun W _ => eqPl_any x y W
      have KB : Hid (∀ W, Below wr.heap.size wr W → g < W.heap.size ∧ g' < W.heap.size ∧ W.cell? ⟨g, o + j * 2, none⟩ = some (.int .i64 x) ∧ W.cell? ⟨g, o + j * 2 + 1, none⟩ = some (.int .i64 y) ∧ W.cell? ⟨g', o' + j * 2, none⟩ = some (.int .i64 x) ∧ W.cell? ⟨g', o' + j * 2 + 1, none⟩ = some (.int .i64 y)) := fun W hW => ⟨Nat.lt_of_lt_of_le hgl hW.size, Nat.lt_of_lt_of_le hgl' hW.size, (hW.cell hgl).trans c0, (hW.cell hgl).trans c1, (hW.cell hgl').trans d0, (hW.cell hgl').trans d1⟩
      clear hp hlt Z0 Z0'
      go_wp2_with fail
      refine wp_region_held_drew (S := fun W => g < W.heap.size ∧ g' < W.heap.size ∧ W.cell? ⟨g, o + j * 2, none⟩ = some (.int .i64 x) ∧ W.cell? ⟨g, o + j * 2 + 1, none⟩ = some (.int .i64 y) ∧ W.cell? ⟨g', o' + j * 2, none⟩ = some (.int .i64 x) ∧ W.cell? ⟨g', o' + j * 2 + 1, none⟩ = some (.int .i64 y)) (by kernel_rfl) ?_ (fun hHeld => ?_)
      · exact KB.out _ (Below.refl _ _).drew
      refine wpAnyH_take (i := 0) (oi := _) (v := ?_) rfl (by kernel_rfl) (by kernel_rfl) (by kernel_rfl) (fun _ _ _ h => h) (Or.inl ⟨by rfl, ?_⟩) (by assumption) ?_
      rotate_left
      · first | (intro w hSw; (try dsimp only at hSw); go_simp; done) | (intro w hSw; (try dsimp only at hSw); go_simp; with_reducible rfl)
      try simp only [Act.put, List.setIfInBounds_toArray, List.set_cons_zero, List.set_cons_succ, List.getElem_toArray, List.getElem_cons_zero]
      refine wpAnyH_take (i := 1) (oi := _) (v := ?_) rfl (by kernel_rfl) (by kernel_rfl) (by kernel_rfl) (fun _ _ _ h => h) (Or.inl ⟨by rfl, ?_⟩) (by assumption) ?_
      rotate_left
      · first | (intro w hSw; (try dsimp only at hSw); go_simp; done) | (intro w hSw; (try dsimp only at hSw); go_simp; with_reducible rfl)
      try simp only [Act.put, List.setIfInBounds_toArray, List.set_cons_zero, List.set_cons_succ, List.getElem_toArray, List.getElem_cons_succ, List.getElem_cons_zero]
      refine wpAnyH_take (i := 2) (oi := _) (v := ?_) rfl (by kernel_rfl) (by kernel_rfl) (by kernel_rfl) (fun _ _ _ h => h) (Or.inl ⟨by rfl, ?_⟩) (by assumption) ?_
      rotate_left
      · first | (intro w hSw; (try dsimp only at hSw); go_simp; done) | (intro w hSw; (try dsimp only at hSw); go_simp; with_reducible rfl)
      try simp only [Act.put, List.setIfInBounds_toArray, List.set_cons_zero, List.set_cons_succ, List.getElem_toArray, List.getElem_cons_succ, List.getElem_cons_zero]
      refine wpAnyH_take (i := 3) (oi := _) (v := ?_) rfl (by kernel_rfl) (by kernel_rfl) (by kernel_rfl) (fun _ _ _ h => h) (Or.inl ⟨by rfl, ?_⟩) (by assumption) ?_
      rotate_left
      · first | (intro w hSw; (try dsimp only at hSw); go_simp; done) | (intro w hSw; (try dsimp only at hSw); go_simp; with_reducible rfl)
      try simp only [Act.put, List.setIfInBounds_toArray, List.set_cons_zero, List.set_cons_succ, List.getElem_toArray, List.getElem_cons_succ, List.getElem_cons_zero]
      refine wpAnyH_take (i := 4) (oi := _) (v := ?_) rfl (by kernel_rfl) (by kernel_rfl) (by kernel_rfl) (fun _ _ _ h => h) (Or.inl ⟨by rfl, ?_⟩) (by assumption) ?_
      rotate_left
      · first | (intro w hSw; (try dsimp only at hSw); go_simp; done) | (intro w hSw; (try dsimp only at hSw); go_simp; with_reducible rfl)
      try simp only [Act.put, List.setIfInBounds_toArray, List.set_cons_zero, List.set_cons_succ, List.getElem_toArray, List.getElem_cons_succ, List.getElem_cons_zero]
      refine wpAnyH_take (i := 5) (oi := _) (v := ?_) rfl (by kernel_rfl) (by kernel_rfl) (by kernel_rfl) (fun _ _ _ h => h) (Or.inl ⟨by rfl, ?_⟩) (by assumption) ?_
      rotate_left
      · first | (intro w hSw; (try dsimp only at hSw); go_simp; done) | (intro w hSw; (try dsimp only at hSw); go_simp; with_reducible rfl)
      try simp only [Act.put, List.setIfInBounds_toArray, List.set_cons_zero, List.set_cons_succ, List.getElem_toArray, List.getElem_cons_succ, List.getElem_cons_zero]
      refine wpAnyH_take (i := 6) (oi := _) (v := ?_) rfl (by kernel_rfl) (by kernel_rfl) (by kernel_rfl) (fun _ _ _ h => h) (Or.inl ⟨by rfl, ?_⟩) (by assumption) ?_
      rotate_left
      · first | (intro w hSw; (try dsimp only at hSw); go_simp; done) | (intro w hSw; (try dsimp only at hSw); go_simp; with_reducible rfl)
      try simp only [Act.put, List.setIfInBounds_toArray, List.set_cons_zero, List.set_cons_succ, List.getElem_toArray, List.getElem_cons_succ, List.getElem_cons_zero]
      refine wpAnyH_take (i := 7) (oi := _) (v := ?_) rfl (by kernel_rfl) (by kernel_rfl) (by kernel_rfl) (fun _ _ _ h => h) (Or.inl ⟨by rfl, ?_⟩) (by assumption) ?_
      rotate_left
      · first | (intro w hSw; (try dsimp only at hSw); go_simp; done) | (intro w hSw; (try dsimp only at hSw); go_simp; with_reducible rfl)
      try simp only [Act.put, List.setIfInBounds_toArray, List.set_cons_zero, List.set_cons_succ, List.getElem_toArray, List.getElem_cons_succ, List.getElem_cons_zero]
      refine wpAnyH_ready (rs := [8]) (by kernel_rfl) (by simp) ?_
      refine AllReadyH.cons rfl (fun K hK => ?_) AllReadyH.nil
      go_simp
      go_wp2_with (go_at_call 76; refine (E.out _ (by first | exact Below.refl _ _ | exact (Below.refl _ _).drew | exact Go.below_drewN (Below.refl _ _) _)).mono ?_; rintro e w5 ⟨rfl, b5⟩)
      have D5 : Hid (Below wr.heap.size wr w5) := bT ((Below.refl wr.heap.size wr).drew) b5
      clear b5
      refine hK.out _ _ ?_ (fun hHeld => ?_)
      · exact KB.out _ D5.out
      clear hK K
      refine wpAnyH_take (i := 9) (oi := _) (v := ?_) rfl (by kernel_rfl) (by kernel_rfl) (by kernel_rfl) (fun _ _ _ h => h) (Or.inl ⟨by rfl, ?_⟩) (by assumption) ?_
      rotate_left
      · first | (intro w hSw; (try dsimp only at hSw); go_simp; done) | (intro w hSw; (try dsimp only at hSw); go_simp; with_reducible rfl)
      try simp only [Act.put, List.setIfInBounds_toArray, List.set_cons_zero, List.set_cons_succ, List.getElem_toArray, List.getElem_cons_succ, List.getElem_cons_zero]
      refine wpAnyH_done (by kernel_rfl) ?_ _
      have BQ5 := Lib.hid (bT H2.out D5.out)
      clear D5 KB E c0 c1 d0 d1
      go_wp2_with fail
      go_roundw
      case rel => exact ⟨j + 1, by go_num, by omega, BQ5⟩
      case measure => simp [intOf]; omega
    · have h1' : ¬ (j : Int) < (n : Int) := by omega
      go_wp2
      go_ret
      exact ⟨rfl, H2.out⟩

/-- A row of m places. -/
def PlM (w : World) (b m : Nat) : Prop := ∃ vs : Array Value, w.heap[b]? = some (.cells vs 97) ∧ m * 2 ≤ vs.size
theorem PlM.set {w : World} {b m : Nat} (h : PlM w b m) (o : Nat) (v : Value) : PlM (w.setCell ⟨b, o, none⟩ v) b m := by
  obtain ⟨vs, h1, h2⟩ := h
  exact ⟨_, heap_setCell_same w b o vs 97 v h1, by simp [h2]⟩
theorem PlM.there {w : World} {b m : Nat} (h : PlM w b m) (j : Nat) (hj : j < m * 2) : (∃ v, w.cell? ⟨b, j, none⟩ = some v) ∧ w.frozen? ⟨b, j, none⟩ = false := by
  obtain ⟨vs, h1, h2⟩ := h
  exact ⟨⟨vs[j]'(by omega), by simp [World.cell?, h1, show j < vs.size by omega]⟩, by simp [World.frozen?, h1]⟩


end Go.Proofs.YtanoklpffenljaaGreatDoor
