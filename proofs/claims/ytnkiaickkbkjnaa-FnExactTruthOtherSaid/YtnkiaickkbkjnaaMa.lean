/-
  VALUES: rows of one's own, their marks, two held against each other.
-/
import Derived.Test.YtnkiaickkbkjnaaVa
import Derived.Test.YtnkiaickkbkjnaaAj
import Derived.Test.YtnkiaickkbkjnaaAs
import Derived.BigQuiet
namespace Go.Proofs.Ytnkiaickkbkjnaa
open Go.RowKit
set_option linter.unusedVariables false

theorem infoVal : (Try.prog.info? 31).map (fun i => (i.zero, i.size, i.bytes)) = some (some (.agg #[.int .i64 0, .int .i64 0]), 2, 16) := by kernel_rfl
theorem own_eVal (w : World) : (w.alloc (.cells #[] 31)).ownsRow w.heap.size 31 2 (.slice (some ⟨w.heap.size, 0, none⟩) 0 0) 0 (enCells []) :=
  ⟨rfl, .inr ⟨w.heap.size, 0, #[], rfl, Nat.le_refl _, by show (w.heap.push _)[w.heap.size]? = _; simp, Nat.le_refl _, Nat.zero_le _, rfl, rfl⟩⟩
/-- The first i cells of a row of places hold the marks. -/
def MarkQ (w : World) (b s : Nat) (k : Int) (i : Nat) : Prop := ∃ vs : Array Value, w.heap[b]? = some (.cells vs 31) ∧ vs.size = s ∧ ∀ j, j < i → vs[j]? = some (.int .i64 (k + (j : Int)))
theorem MarkQ.step {w : World} {b s : Nat} {k : Int} {i : Nat} (h : MarkQ w b s k i) (hi : i < s) : MarkQ (w.setCell ⟨b, i, none⟩ (.int .i64 (k + (i : Int)))) b s k (i + 1) := by
  obtain ⟨vs, h1, h2, h3⟩ := h
  refine ⟨_, heap_setCell_same w b i vs 31 _ h1, by simp [h2], fun j hj => ?_⟩
  rw [Array.getElem?_setIfInBounds]
  by_cases e : i = j
  · subst e; simp [h2, hi]
  · rw [if_neg e]; exact h3 j (by omega)
theorem MarkQ.cell {w : World} {b s : Nat} {k : Int} {i : Nat} (h : MarkQ w b s k i) (j : Nat) (hj : j < s) : (∃ v, w.cell? ⟨b, j, none⟩ = some v) ∧ w.frozen? ⟨b, j, none⟩ = false := by
  obtain ⟨vs, h1, h2, h3⟩ := h
  exact ⟨⟨vs[j]'(by omega), by simp [World.cell?, h1, show j < vs.size by omega]⟩, by simp [World.frozen?, h1]⟩
theorem MarkQ.at {w : World} {b s : Nat} {k : Int} {i : Nat} (h : MarkQ w b s k i) (j : Nat) (hj : j < i) : w.cell? ⟨b, j, none⟩ = some (.int .i64 (k + (j : Int))) := by
  obtain ⟨vs, h1, h2, h3⟩ := h
  have := h3 j hj
  simp [World.cell?, h1, this]
theorem MarkQ.lt {w : World} {b s : Nat} {k : Int} {i : Nat} (h : MarkQ w b s k i) : b < w.heap.size := by
  obtain ⟨vs, h1, _⟩ := h
  exact (Array.getElem?_eq_some_iff.1 h1).1

set_option maxHeartbeats 400000 in
theorem mark2_nil (sl : Option Addr) (cap : Nat) (k : Int) (w : World) :
    Calls Try.prog 9 #[.slice sl 0 cap, .int .i64 k] w fun e w' => e = .returned (.int .i64 k) ∧ w' = w := by
  go_enter Try.func9, Try.ntmps9
  go_wp2
  refine wp_loop_rounds 1 ?_
  rw [rounds_succ]
  go_wp2
  go_ret
  exact ⟨rfl, rfl⟩
set_option maxHeartbeats 400000 in
theorem held2_nil (sl : Option Addr) (cap : Nat) (k : Int) (w : World) :
    Calls Try.prog 10 #[.slice sl 0 cap, .int .i64 k] w fun e w' => e = .returned (.int .i64 k) ∧ w' = w := by
  go_enter Try.func10, Try.ntmps10
  go_wp2
  refine wp_loop_rounds 1 ?_
  rw [rounds_succ]
  go_wp2
  go_ret
  exact ⟨rfl, rfl⟩

set_option maxRecDepth 100000 in
set_option maxHeartbeats 1000000 in
theorem mark2_some (b m s cap : Nat) (k : Int) (hn : m ≤ 1048576) (hs : m * 2 ≤ s) (k0 : 0 ≤ k) (k1 : k ≤ 1000000000) (w : World) (h : MarkQ w b s k 0) :
    Calls Try.prog 9 #[.slice (some ⟨b, 0, none⟩) m cap, .int .i64 k] w fun e w' => e = .returned (.int .i64 (k + 2 * (m : Int))) ∧ MarkQ w' b s k (m * 2) ∧ Only b w w' := by
  have H := Lib.hid h
  clear h
  go_enter Try.func9, Try.ntmps9
  go_wp2
  go_loopw [1, 5] (fun v i wr => ∃ j : Nat, i = .int .i64 j ∧ v = .int .i64 (k + 2 * (j : Int)) ∧ j ≤ m ∧ Hid (MarkQ wr b s k (j * 2)) ∧ Hid (Only b w wr)) (fun _ i _ => m - (intOf i).toNat)
  case atStart => exact ⟨0, rfl, by simp, Nat.zero_le _, H, Only.refl _ _⟩
  case round =>
    obtain ⟨j, rfl, rfl, hj, H1, H2⟩ := hrel
    have hj0 : (0 : Int) ≤ (j : Int) := by omega
    by_cases h1 : j < m
    · have h1' : (j : Int) < (m : Int) := by omega
      obtain ⟨⟨v0, c0⟩, f0⟩ := H1.out.cell (j * 2) (by omega)
      obtain ⟨⟨v1, c1⟩, f1⟩ := H1.out.cell (j * 2 + 1) (by omega)
      have S2 : Hid (MarkQ ((wr.setCell ⟨b, j * 2, none⟩ (.int .i64 (k + 2 * (j : Int)))).setCell ⟨b, j * 2 + 1, none⟩ (.int .i64 (k + 2 * (j : Int) + 1))) b s k ((j + 1) * 2)) := by
        have := (H1.out.step (by omega)).step (by omega)
        rw [show ((j * 2 : Nat) : Int) = 2 * (j : Int) by omega, show (k + ((j * 2 + 1 : Nat) : Int)) = k + 2 * (j : Int) + 1 by omega, show j * 2 + 1 + 1 = (j + 1) * 2 by omega] at this
        exact this
      have B2 := Lib.hid ((H2.out.setCell (j * 2) (.int .i64 (k + 2 * (j : Int)))).setCell (j * 2 + 1) (.int .i64 (k + 2 * (j : Int) + 1)))
      clear H1 H2
      go_wp2
      go_roundw
      case rel => exact ⟨j + 1, by go_num, by congr 1; push_cast; omega, by omega, S2, B2⟩
      case measure => simp [intOf]; omega
    · have h1' : ¬ (j : Int) < (m : Int) := by omega
      have P := Lib.hid (show (k + 2 * (j : Int)) = k + 2 * (m : Int) ∧ j * 2 = m * 2 by omega)
      have Q : Hid (MarkQ wr b s k (m * 2)) := by have := H1.out; rw [P.out.2] at this; exact this
      go_wp2
      go_ret
      exact ⟨by rw [← P.out.1]; rfl, Q.out, H2.out⟩

set_option maxRecDepth 100000 in
set_option maxHeartbeats 1000000 in
theorem held2_some (b m s cap : Nat) (k : Int) (hn : m ≤ 1048576) (k0 : 0 ≤ k) (k1 : k ≤ 1000000000) (w : World) (h : MarkQ w b s k (m * 2)) :
    Calls Try.prog 10 #[.slice (some ⟨b, 0, none⟩) m cap, .int .i64 k] w fun e w' => e = .returned (.int .i64 (k + 2 * (m : Int))) ∧ w' = w := by
  have H := Lib.hid h
  clear h
  go_enter Try.func10, Try.ntmps10
  go_wp2
  go_loopw [1, 5] (fun v i wr => ∃ j : Nat, i = .int .i64 j ∧ v = .int .i64 (k + 2 * (j : Int)) ∧ j ≤ m ∧ wr = w) (fun _ i _ => m - (intOf i).toNat)
  case atStart => exact ⟨0, rfl, by simp, Nat.zero_le _, rfl⟩
  case round =>
    obtain ⟨j, rfl, rfl, hj, rfl⟩ := hrel
    have hj0 : (0 : Int) ≤ (j : Int) := by omega
    by_cases h1 : j < m
    · have h1' : (j : Int) < (m : Int) := by omega
      have c0 := H.out.at (j * 2) (by omega)
      have c1 := H.out.at (j * 2 + 1) (by omega)
      have bl := H.out.lt
      rw [show (k + ((j * 2 : Nat) : Int)) = k + 2 * (j : Int) by omega] at c0
      rw [show (k + ((j * 2 + 1 : Nat) : Int)) = k + 2 * (j : Int) + 1 by omega] at c1
      have e0 : (k + 2 * (j : Int) != k + 2 * (j : Int)) = false := by simp
      have e1 : (k + 2 * (j : Int) + 1 != k + 2 * (j : Int) + 1) = false := by simp
      go_wp2
      go_roundw
      case rel => exact ⟨j + 1, by go_num, by congr 1; push_cast; omega, by omega, trivial⟩
      case measure => simp [intOf]; omega
    · have h1' : ¬ (j : Int) < (m : Int) := by omega
      have P := Lib.hid (show (k + 2 * (j : Int)) = k + 2 * (m : Int) by omega)
      go_wp2
      go_ret
      exact ⟨by rw [← P.out]; rfl, rfl⟩

theorem mark2_row (B : Nat) (v : Value) (n : Nat) (xs : List Value) (k : Int) (hn : n ≤ 1048576) (k0 : 0 ≤ k) (k1 : k ≤ 1000000000) (w : World) (h : w.ownsRow B 31 2 v n xs) :
    Calls Try.prog 9 #[v, .int .i64 k] w fun e w' => e = .returned (.int .i64 (k + 2 * (n : Int))) ∧ w'.ownsRow B 31 2 v n (valsZ (marks k (n * 2))) ∧ w.grownBy w' v.ownBlock := by
  have hl : (valsZ (marks k (n * 2))).length = n * 2 := by simp [valsZ, marks_len]
  rcases h.2 with ⟨rfl, h0⟩ | ⟨g, cap, cur, rfl, hb, hg, hcap, hmx, hcur, hx⟩
  · subst h0
    refine (mark2_nil _ _ _ _).mono ?_
    rintro e w' ⟨rfl, rfl⟩
    exact ⟨by simp, ⟨by simp [valsZ, marks], .inl ⟨rfl, rfl⟩⟩, ⟨rfl, rfl, rfl, Nat.le_refl _, fun _ _ _ => rfl⟩⟩
  · refine (mark2_some g n cur.size cap k hn (by rw [hcur]; omega) k0 k1 w ⟨cur, hg, rfl, fun j hj => absurd hj (Nat.not_lt_zero _)⟩).mono ?_
    rintro e w' ⟨rfl, ⟨vs, h1, h2, h3⟩, ho⟩
    refine ⟨rfl, ⟨hl, .inr ⟨g, cap, vs, rfl, hb, h1, hcap, hmx, by rw [h2, hcur], ?_⟩⟩, ho.grownBy⟩
    apply List.ext_getElem?
    intro i
    by_cases hi : i < n * 2
    · rw [List.getElem?_take_of_lt (by omega)]
      simp only [valsZ, List.getElem?_map, marks_get k _ i hi]
      have := h3 i hi
      simpa using this
    · rw [List.getElem?_eq_none (by simp; omega), List.getElem?_eq_none (by simp [valsZ, marks_len]; omega)]
theorem held2_row (B : Nat) (v : Value) (n : Nat) (k : Int) (hn : n ≤ 1048576) (k0 : 0 ≤ k) (k1 : k ≤ 1000000000) (w : World) (h : w.ownsRow B 31 2 v n (valsZ (marks k (n * 2)))) :
    Calls Try.prog 10 #[v, .int .i64 k] w fun e w' => e = .returned (.int .i64 (k + 2 * (n : Int))) ∧ w' = w := by
  rcases h.2 with ⟨rfl, h0⟩ | ⟨g, cap, cur, rfl, hb, hg, hcap, hmx, hcur, hx⟩
  · subst h0
    refine (held2_nil _ _ _ _).mono ?_
    rintro e w' ⟨rfl, rfl⟩
    exact ⟨by simp, rfl⟩
  · refine held2_some g n cur.size cap k hn k0 k1 w ⟨cur, hg, rfl, fun j hj => ?_⟩
    have := congrArg (fun l => l[j]?) hx
    simp only [valsZ, List.getElem?_map, marks_get k _ j hj] at this
    rw [List.getElem?_take_of_lt (by omega)] at this
    simpa using this

theorem own_vals {w : World} {B : Nat} {v : Value} {pl : List LPl} (h : w.ownsRow B 31 2 v pl.length (enCells pl)) : ∃ sl cap, v = .slice sl pl.length cap ∧ (pl = [] ∨ ∃ c, sl = some ⟨c, 0, none⟩ ∧ PlAt w c 0 pl ∧ B ≤ c) := by
  rcases h.2 with ⟨hv, h0⟩ | ⟨g, cap, cur, hv, hb, hg, _⟩
  · exact ⟨none, 0, by rw [hv, h0], .inl (List.eq_nil_of_length_eq_zero h0)⟩
  · refine ⟨_, cap, hv, .inr ⟨g, rfl, ⟨(Array.getElem?_eq_some_iff.1 hg).1, fun i hi => ?_⟩, hb⟩⟩
    have e := enCells_at pl i hi
    subst hv
    rw [Nat.zero_add]
    exact ⟨by rw [h.cellAt (i * 2) (by omega), e.1], by rw [h.cellAt (i * 2 + 1) (by omega), e.2]⟩

end Go.Proofs.Ytnkiaickkbkjnaa
