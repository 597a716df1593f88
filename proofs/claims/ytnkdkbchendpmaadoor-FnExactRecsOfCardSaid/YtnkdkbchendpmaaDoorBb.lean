/-
  A RECORD's BYTES, AS THE PROGRAM WRITES THEM.
-/
import Derived.Test.YtnkdkbchendpmaaDoorBa
import Derived.Test.YtnkdkbchendpmaaDoorSb
namespace Go.Proofs.YtnkdkbchendpmaaDoor
open Go.RowKit
set_option linter.unusedVariables false

theorem Ints.at {w : World} {sl : Option Addr} {zs : List Int} (h : Ints w sl zs) (j : Nat) (hj : j < zs.length) : ∃ c o, sl = some ⟨c, o, none⟩ ∧ w.cell? ⟨c, o + j, none⟩ = some (.int .i64 (zs.getD j 0)) := by
  rcases h with rfl | ⟨c, o, e, h⟩
  · simp at hj
  · exact ⟨c, o, e, h.2 j hj⟩

set_option maxHeartbeats 1000000 in
theorem body_some (B b : Nat) (k : Nat) (c o cap : Nat) (zs : List Int) (w : World) (h : WrAt B b [] w) (hB : B ≤ w.heap.size) (hr : recR k zs = true) (hz : ∀ w1, Below B w w1 → IntsAt w1 c o zs) :
    Calls Tryd.prog 35 #[.pointer (some ⟨b, 0, none⟩), RV k (some ⟨c, o, none⟩) zs.length cap] w fun e w' => e = .returned (.tuple #[]) ∧ WrAt B b (bodyB k zs) w' ∧ Below B w w' := by
  obtain ⟨k1, k2, hn, ha⟩ := recR_parts hr
  have N1 : Hid (∀ w, WrAt B b [] w → B ≤ w.heap.size → Calls Tryd.prog 46 #[.pointer (some ⟨b, 0, none⟩), .int .i64 k] w fun e w' => e = .returned (.tuple #[]) ∧ WrAt B b (numB k) w' ∧ Below B w w' ∧ Lib.OthersKept 5 (some b) w w') :=
    fun w h hB => num_any B b [] k w h hB (by simp) (by omega)
  have N2 : Hid (∀ w, WrAt B b (numB k) w → B ≤ w.heap.size → Calls Tryd.prog 46 #[.pointer (some ⟨b, 0, none⟩), .int .i64 zs.length] w fun e w' => e = .returned (.tuple #[]) ∧ WrAt B b (numB k ++ numB zs.length) w' ∧ Below B w w' ∧ Lib.OthersKept 5 (some b) w w') :=
    fun w h hB => num_any B b (numB k) zs.length w h hB (by have := numB_len k 0 (by omega); omega) (by omega)
  have hb := h.lt
  have HW : Hid (WrAt B b [] (w.alloc (.cells #[.int .i64 k, .slice (some ⟨c, o, none⟩) zs.length cap] 28))) := h.alloc _
  have HR : Hid (RAt 28 (w.alloc (.cells #[.int .i64 k, .slice (some ⟨c, o, none⟩) zs.length cap] 28)) w.heap.size k (some ⟨c, o, none⟩) zs.length cap) := RAt.new 28 w k _ _ _
  have HB0 : Hid (Below B w (w.alloc (.cells #[.int .i64 k, .slice (some ⟨c, o, none⟩) zs.length cap] 28))) := (Below.refl _ _).alloc hB _
  have HZ := Lib.hid hz
  have HA := Lib.hid ha
  have HE : Hid (bodyB k zs = numB k ++ numB zs.length ++ numsB zs) := by show _ = _; simp [bodyB]
  clear h hz ha hr
  generalize hN : zs.length = n at *
  have HN := Lib.hid hN
  clear hN
  have hB1 : B ≤ (w.alloc (.cells #[.int .i64 k, .slice (some ⟨c, o, none⟩) n cap] 28)).heap.size := Nat.le_trans hB HB0.out.size
  go_enter Tryd.func35, Tryd.ntmps35
  go_wp2_with fail
  refine (N1.out _ HW.out hB1).mono ?_
  rintro e w1 ⟨rfl, h1, b1, q1⟩
  have W1 := Lib.hid h1
  have R1 := Lib.hid (HR.out.kept (by decide) q1 (by omega))
  have B1 : Hid (Below B w w1) := HB0.out.trans b1
  obtain ⟨c0, c1⟩ := R1.out.cells
  have hB2 : B ≤ w1.heap.size := Nat.le_trans hB B1.out.size
  clear h1 b1 q1 HW HR HB0 N1
  go_wp2_with fail
  refine (N2.out _ W1.out hB2).mono ?_
  rintro e w2 ⟨rfl, h1, b1, q1⟩
  have W2 := Lib.hid h1
  have R2 := Lib.hid (R1.out.kept (by decide) q1 (by omega))
  have B2 : Hid (Below B w w2) := B1.out.trans b1
  clear c0 c1
  obtain ⟨c0, c1⟩ := R2.out.cells
  have hB3 : B ≤ w2.heap.size := Nat.le_trans hB B2.out.size
  clear h1 b1 q1 R1 W1 B1 N2 R2
  go_wp2
  go_loopw [18] (fun i wr => ∃ j : Nat, i = .int .i64 j ∧ j ≤ n ∧ Hid (WrAt B b (numB k ++ numB n ++ numsB (zs.take j)) wr) ∧ Hid (Below B w wr)) (fun i _ => n - (intOf i).toNat)
  case atStart => exact ⟨0, rfl, Nat.zero_le _, (by show WrAt _ _ _ _; simpa [numsB] using W2.out), B2⟩
  case round =>
    obtain ⟨j, rfl, hj, H1, H2⟩ := hrel
    have hj0 : (0 : Int) ≤ (j : Int) := by omega
    by_cases h1 : j < n
    · have h1' : (j : Int) < (n : Int) := by omega
      have hl : j < zs.length := by rw [HN.out]; exact h1
      have hc : wr.cell? ⟨c, o + j, none⟩ = some (.int .i64 (zs.getD j 0)) := (HZ.out wr H2.out).2 j hl
      have S : Hid (∀ w, WrAt B b (numB k ++ numB n ++ numsB (zs.take j)) w → B ≤ w.heap.size → Calls Tryd.prog 60 #[.pointer (some ⟨b, 0, none⟩), .int .i64 (zs.getD j 0)] w fun e w' => e = .returned (.tuple #[]) ∧ WrAt B b (numB k ++ numB n ++ numsB (zs.take (j + 1))) w' ∧ Below B w w' ∧ Lib.OthersKept 5 (some b) w w') := by
        intro w h hB
        have hall : (zs.take j).all isN = true := by
          rw [List.all_eq_true]; intro x hx; exact List.all_eq_true.1 HA.out x (List.mem_of_mem_take hx)
        have := sign_any B b _ (zs.getD j 0) w h hB (by
          have a := numB_len k 0 (by omega)
          have b := numB_len n 0 (by omega)
          have c := numsB_len (zs.take j) hall
          simp only [List.length_append]
          have : (zs.take j).length ≤ 60 := by simp; omega
          omega) (by
          have h3 : zs.getD j 0 = zs[j] := by simp [hl]
          rw [h3]; exact List.all_eq_true.1 HA.out _ (List.getElem_mem hl))
        rwa [List.append_assoc (numB k ++ numB n), ← numsB_take zs j hl] at this
      have hB4 : B ≤ wr.heap.size := Nat.le_trans hB H2.out.size
      clear hl
      generalize zs.getD j 0 = z at *
      go_wp2_with fail
      refine (S.out _ H1.out hB4).mono ?_
      rintro e w3 ⟨rfl, h2, b2, -⟩
      have F1 := Lib.hid h2
      have F2 : Hid (Below B w w3) := H2.out.trans b2
      clear h2 b2
      go_wp2
      go_roundw
      case rel => exact ⟨j + 1, by go_num, by omega, F1, F2⟩
      case measure => simp [intOf]; omega
    · have h1' : ¬ (j : Int) < (n : Int) := by omega
      have F : Hid (WrAt B b (bodyB k zs) wr) := by
        show WrAt _ _ _ _
        have := H1.out
        rw [List.take_of_length_le (by rw [HN.out]; omega), ← HE.out] at this
        exact this
      go_wp2
      first | go_end0 | go_ret | go_ret2
      exact ⟨rfl, F.out, H2.out⟩

set_option maxHeartbeats 1000000 in
theorem body_nil (B b : Nat) (k : Nat) (sl : Option Addr) (cap : Nat) (w : World) (h : WrAt B b [] w) (hB : B ≤ w.heap.size) (hr : recR k [] = true) :
    Calls Tryd.prog 35 #[.pointer (some ⟨b, 0, none⟩), RV k sl 0 cap] w fun e w' => e = .returned (.tuple #[]) ∧ WrAt B b (bodyB k []) w' ∧ Below B w w' := by
  obtain ⟨k1, k2, hn, ha⟩ := recR_parts hr
  have N1 : Hid (∀ w, WrAt B b [] w → B ≤ w.heap.size → Calls Tryd.prog 46 #[.pointer (some ⟨b, 0, none⟩), .int .i64 k] w fun e w' => e = .returned (.tuple #[]) ∧ WrAt B b (numB k) w' ∧ Below B w w' ∧ Lib.OthersKept 5 (some b) w w') :=
    fun w h hB => num_any B b [] k w h hB (by simp) (by omega)
  have N2 : Hid (∀ w, WrAt B b (numB k) w → B ≤ w.heap.size → Calls Tryd.prog 46 #[.pointer (some ⟨b, 0, none⟩), .int .i64 0] w fun e w' => e = .returned (.tuple #[]) ∧ WrAt B b (numB k ++ numB 0) w' ∧ Below B w w' ∧ Lib.OthersKept 5 (some b) w w') :=
    fun w h hB => num_any B b (numB k) 0 w h hB (by have := numB_len k 0 (by omega); omega) (by omega)
  have hb := h.lt
  have HW : Hid (WrAt B b [] (w.alloc (.cells #[.int .i64 k, .slice sl 0 cap] 28))) := h.alloc _
  have HR : Hid (RAt 28 (w.alloc (.cells #[.int .i64 k, .slice sl 0 cap] 28)) w.heap.size k sl 0 cap) := RAt.new 28 w k _ _ _
  have HB0 : Hid (Below B w (w.alloc (.cells #[.int .i64 k, .slice sl 0 cap] 28))) := (Below.refl _ _).alloc hB _
  have HE : Hid (bodyB k [] = numB k ++ numB 0) := by show _ = _; simp [bodyB, numsB]
  clear h ha hr
  have hB1 : B ≤ (w.alloc (.cells #[.int .i64 k, .slice sl 0 cap] 28)).heap.size := Nat.le_trans hB HB0.out.size
  go_enter Tryd.func35, Tryd.ntmps35
  go_wp2_with fail
  refine (N1.out _ HW.out hB1).mono ?_
  rintro e w1 ⟨rfl, h1, b1, q1⟩
  have W1 := Lib.hid h1
  have R1 := Lib.hid (HR.out.kept (by decide) q1 (by omega))
  have B1 : Hid (Below B w w1) := HB0.out.trans b1
  obtain ⟨c0, c1⟩ := R1.out.cells
  have hB2 : B ≤ w1.heap.size := Nat.le_trans hB B1.out.size
  clear h1 b1 q1 HW HR HB0 N1
  go_wp2_with fail
  refine (N2.out _ W1.out hB2).mono ?_
  rintro e w2 ⟨rfl, h1, b1, q1⟩
  have W2 := Lib.hid h1
  have R2 := Lib.hid (R1.out.kept (by decide) q1 (by omega))
  have B2 : Hid (Below B w w2) := B1.out.trans b1
  clear c0 c1
  obtain ⟨c0, c1⟩ := R2.out.cells
  clear h1 b1 q1 R1 W1 B1 N2 R2
  go_wp2
  refine wp_loop_rounds 1 ?_
  rw [rounds_succ]
  go_wp2
  first | go_end0 | go_ret | go_ret2
  exact ⟨rfl, by rw [HE.out]; exact W2.out, B2.out⟩

theorem body_any (B b : Nat) (k : Int) (sl : Option Addr) (cap : Nat) (zs : List Int) (w : World) (h : WrAt B b [] w) (hB : B ≤ w.heap.size) (hr : recR k zs = true) (hz : ∀ w1, Below B w w1 → Ints w1 sl zs) :
    Calls Tryd.prog 35 #[.pointer (some ⟨b, 0, none⟩), RV k sl zs.length cap] w fun e w' => e = .returned (.tuple #[]) ∧ WrAt B b (bodyB k zs) w' ∧ Below B w w' := by
  obtain ⟨m, rfl⟩ := Int.eq_ofNat_of_zero_le (show 0 ≤ k by have := recR_parts hr; omega)
  by_cases h0 : zs = []
  · subst h0; exact body_nil B b m sl cap w h hB hr
  · obtain ⟨c, o, e, _⟩ : ∃ c o, sl = some ⟨c, o, none⟩ ∧ IntsAt w c o zs := by
      rcases hz w (Below.refl _ _) with e | h
      · exact absurd e h0
      · exact h
    subst e
    refine body_some B b m c o cap zs w h hB hr fun w1 hb => ?_
    rcases hz w1 hb with e | ⟨c', o', e, h⟩
    · exact absurd e h0
    · cases e; exact h

end Go.Proofs.YtnkdkbchendpmaaDoor
