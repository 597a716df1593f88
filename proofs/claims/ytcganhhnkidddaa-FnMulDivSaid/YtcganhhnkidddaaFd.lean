/-
  THE LAW FnMulDiv: its walk.
-/
import Derived.Test.YtcganhhnkidddaaMw
import Derived.Test.YtcganhhnkidddaaDc
import Derived.Deep.RegionHeld3
namespace Go.Proofs.Ytcganhhnkidddaa
open Go.RowKit
set_option linter.unusedVariables false

set_option maxHeartbeats 2000000 in
theorem drawMulDiv_any (sl : Option Addr) (len cap : Nat) (w : World) (hr : RowIn w sl len) :
    Calls Try.prog 19 #[.slice sl len cap] w fun e w' => ∃ x y z : Int, e = .returned (.tuple #[.int .i64 x, .int .i64 y, .int .i64 z]) ∧ Below w.heap.size w w' := by
  have HR : Hid (RowIn w sl len) := hr
  clear hr
  go_enter Try.func19, Try.ntmps19
  go_wp2_with fail
  refine (source_any sl len cap _ HR.out).mono ?_
  rintro e w1 ⟨rfl, s1, b1⟩
  have H1 : Hid (Src w1 w.heap.size) := s1
  have B1 : Hid (Below w.heap.size w w1) := b1
  clear s1 b1
  go_wp2_with fail
  refine (one_any _ 8 _ (by decide) H1.out).mono ?_
  rintro e w2 ⟨t2, rfl, s2, o2⟩
  have H2 : Hid (Src w2 w.heap.size) := s2
  have B2 : Hid (Below w.heap.size w w2) := o2.below B1.out (Nat.le_refl _)
  clear s2 o2 H1 B1
  cases t2
  · go_wp2_with fail
    refine (n_lt _ 1000000000001 _ (by decide) (by decide) H2.out).mono ?_
    rintro e w3 ⟨a, rfl, a0, a1, s3, o3⟩
    have H3 : Hid (Src w3 w.heap.size) := s3
    have B3 : Hid (Below w.heap.size w w3) := o3.below B2.out (Nat.le_refl _)
    clear s3 o3 H2 B2
    go_wp2_with fail
    refine (one_any _ 3 _ (by decide) H3.out).mono ?_
    rintro e w4 ⟨t4, rfl, s4, o4⟩
    have H4 : Hid (Src w4 w.heap.size) := s4
    have B4 : Hid (Below w.heap.size w w4) := o4.below B3.out (Nat.le_refl _)
    clear s4 o4 H3 B3
    cases t4
    · go_wp2_with fail
      refine (n_lt _ 1000000000001 _ (by decide) (by decide) H4.out).mono ?_
      rintro e w5 ⟨b, rfl, b0, b1, s5, o5⟩
      have H5 : Hid (Src w5 w.heap.size) := s5
      have B5 : Hid (Below w.heap.size w w5) := o5.below B4.out (Nat.le_refl _)
      clear s5 o5 H4 B4
      go_wp2_with fail
      refine (one_any _ 2 _ (by decide) H5.out).mono ?_
      rintro e w6 ⟨t6, rfl, s6, o6⟩
      have H6 : Hid (Src w6 w.heap.size) := s6
      have B6 : Hid (Below w.heap.size w w6) := o6.below B5.out (Nat.le_refl _)
      clear s6 o6 H5 B5
      cases t6
      · go_wp2_with fail
        refine (n_lt _ 1000000000000 _ (by decide) (by decide) H6.out).mono ?_
        rintro e w7 ⟨c, rfl, c0, c1, s7, o7⟩
        have H7 : Hid (Src w7 w.heap.size) := s7
        have B7 : Hid (Below w.heap.size w w7) := o7.below B6.out (Nat.le_refl _)
        clear s7 o7 H6 B6
        go_wp2_with fail
        refine (one_any _ 3 _ (by decide) H7.out).mono ?_
        rintro e w8 ⟨t8, rfl, s8, o8⟩
        have H8 : Hid (Src w8 w.heap.size) := s8
        have B8 : Hid (Below w.heap.size w w8) := o8.below B7.out (Nat.le_refl _)
        clear s8 o8 H7 B7
        cases t8
        · go_wp2
          go_ret3
          exact ⟨_, _, _, rfl, B8.out⟩
        · go_wp2_with fail
          refine (n_lt _ 2000 _ (by decide) (by decide) H8.out).mono ?_
          rintro e w9 ⟨d, rfl, d0, d1, s9, o9⟩
          have H9 : Hid (Src w9 w.heap.size) := s9
          have B9 : Hid (Below w.heap.size w w9) := o9.below B8.out (Nat.le_refl _)
          clear s9 o9 H8 B8
          go_wp2
          go_ret3
          exact ⟨_, _, _, rfl, B9.out⟩
      · go_wp2_with fail
        refine (n_lt _ 3000 _ (by decide) (by decide) H6.out).mono ?_
        rintro e w7 ⟨f, rfl, f0, f1, s7, o7⟩
        have H7 : Hid (Src w7 w.heap.size) := s7
        have B7 : Hid (Below w.heap.size w w7) := o7.below B6.out (Nat.le_refl _)
        clear s7 o7 H6 B6
        go_wp2_with fail
        refine (n_lt _ 1000000000000 _ (by decide) (by decide) H7.out).mono ?_
        rintro e w8 ⟨c, rfl, c0, c1, s8, o8⟩
        have H8 : Hid (Src w8 w.heap.size) := s8
        have B8 : Hid (Below w.heap.size w w8) := o8.below B7.out (Nat.le_refl _)
        clear s8 o8 H7 B7
        go_wp2_with fail
        refine (one_any _ 3 _ (by decide) H8.out).mono ?_
        rintro e w9 ⟨t9, rfl, s9, o9⟩
        have H9 : Hid (Src w9 w.heap.size) := s9
        have B9 : Hid (Below w.heap.size w w9) := o9.below B8.out (Nat.le_refl _)
        clear s9 o9 H8 B8
        cases t9
        · go_wp2
          go_ret3
          exact ⟨_, _, _, rfl, B9.out⟩
        · go_wp2_with fail
          refine (n_lt _ 2000 _ (by decide) (by decide) H9.out).mono ?_
          rintro e w10 ⟨d, rfl, d0, d1, s10, o10⟩
          have H10 : Hid (Src w10 w.heap.size) := s10
          have B10 : Hid (Below w.heap.size w w10) := o10.below B9.out (Nat.le_refl _)
          clear s10 o10 H9 B9
          go_wp2
          go_ret3
          exact ⟨_, _, _, rfl, B10.out⟩
    · go_wp2_with fail
      refine (n_lt _ 5000 _ (by decide) (by decide) H4.out).mono ?_
      rintro e w5 ⟨g, rfl, g0, g1, s5, o5⟩
      have H5 : Hid (Src w5 w.heap.size) := s5
      have B5 : Hid (Below w.heap.size w w5) := o5.below B4.out (Nat.le_refl _)
      clear s5 o5 H4 B4
      go_wp2_with fail
      refine (n_lt _ 1000000000001 _ (by decide) (by decide) H5.out).mono ?_
      rintro e w6 ⟨b, rfl, b0, b1, s6, o6⟩
      have H6 : Hid (Src w6 w.heap.size) := s6
      have B6 : Hid (Below w.heap.size w w6) := o6.below B5.out (Nat.le_refl _)
      clear s6 o6 H5 B5
      go_wp2_with fail
      refine (one_any _ 2 _ (by decide) H6.out).mono ?_
      rintro e w7 ⟨t7, rfl, s7, o7⟩
      have H7 : Hid (Src w7 w.heap.size) := s7
      have B7 : Hid (Below w.heap.size w w7) := o7.below B6.out (Nat.le_refl _)
      clear s7 o7 H6 B6
      cases t7
      · go_wp2_with fail
        refine (n_lt _ 1000000000000 _ (by decide) (by decide) H7.out).mono ?_
        rintro e w8 ⟨c, rfl, c0, c1, s8, o8⟩
        have H8 : Hid (Src w8 w.heap.size) := s8
        have B8 : Hid (Below w.heap.size w w8) := o8.below B7.out (Nat.le_refl _)
        clear s8 o8 H7 B7
        go_wp2_with fail
        refine (one_any _ 3 _ (by decide) H8.out).mono ?_
        rintro e w9 ⟨t9, rfl, s9, o9⟩
        have H9 : Hid (Src w9 w.heap.size) := s9
        have B9 : Hid (Below w.heap.size w w9) := o9.below B8.out (Nat.le_refl _)
        clear s9 o9 H8 B8
        cases t9
        · go_wp2
          go_ret3
          exact ⟨_, _, _, rfl, B9.out⟩
        · go_wp2_with fail
          refine (n_lt _ 2000 _ (by decide) (by decide) H9.out).mono ?_
          rintro e w10 ⟨d, rfl, d0, d1, s10, o10⟩
          have H10 : Hid (Src w10 w.heap.size) := s10
          have B10 : Hid (Below w.heap.size w w10) := o10.below B9.out (Nat.le_refl _)
          clear s10 o10 H9 B9
          go_wp2
          go_ret3
          exact ⟨_, _, _, rfl, B10.out⟩
      · go_wp2_with fail
        refine (n_lt _ 3000 _ (by decide) (by decide) H7.out).mono ?_
        rintro e w8 ⟨f, rfl, f0, f1, s8, o8⟩
        have H8 : Hid (Src w8 w.heap.size) := s8
        have B8 : Hid (Below w.heap.size w w8) := o8.below B7.out (Nat.le_refl _)
        clear s8 o8 H7 B7
        go_wp2_with fail
        refine (n_lt _ 1000000000000 _ (by decide) (by decide) H8.out).mono ?_
        rintro e w9 ⟨c, rfl, c0, c1, s9, o9⟩
        have H9 : Hid (Src w9 w.heap.size) := s9
        have B9 : Hid (Below w.heap.size w w9) := o9.below B8.out (Nat.le_refl _)
        clear s9 o9 H8 B8
        go_wp2_with fail
        refine (one_any _ 3 _ (by decide) H9.out).mono ?_
        rintro e w10 ⟨t10, rfl, s10, o10⟩
        have H10 : Hid (Src w10 w.heap.size) := s10
        have B10 : Hid (Below w.heap.size w w10) := o10.below B9.out (Nat.le_refl _)
        clear s10 o10 H9 B9
        cases t10
        · go_wp2
          go_ret3
          exact ⟨_, _, _, rfl, B10.out⟩
        · go_wp2_with fail
          refine (n_lt _ 2000 _ (by decide) (by decide) H10.out).mono ?_
          rintro e w11 ⟨d, rfl, d0, d1, s11, o11⟩
          have H11 : Hid (Src w11 w.heap.size) := s11
          have B11 : Hid (Below w.heap.size w w11) := o11.below B10.out (Nat.le_refl _)
          clear s11 o11 H10 B10
          go_wp2
          go_ret3
          exact ⟨_, _, _, rfl, B11.out⟩
  · go_wp2_with fail
    refine (money_any _ _ H2.out).mono ?_
    rintro e w3 ⟨a, rfl, hx3, s3, o3⟩
    have H3 : Hid (Src w3 w.heap.size) := s3
    have B3 : Hid (Below w.heap.size w w3) := o3.below B2.out (Nat.le_refl _)
    clear s3 o3 H2 B2 hx3
    go_wp2_with fail
    refine (money_any _ _ H3.out).mono ?_
    rintro e w4 ⟨b, rfl, hx4, s4, o4⟩
    have H4 : Hid (Src w4 w.heap.size) := s4
    have B4 : Hid (Below w.heap.size w w4) := o4.below B3.out (Nat.le_refl _)
    clear s4 o4 H3 B3 hx4
    go_wp2_with fail
    refine (money_any _ _ H4.out).mono ?_
    rintro e w5 ⟨c, rfl, hx5, s5, o5⟩
    have H5 : Hid (Src w5 w.heap.size) := s5
    have B5 : Hid (Below w.heap.size w w5) := o5.below B4.out (Nat.le_refl _)
    clear s5 o5 H4 B4 hx5
    go_wp2
    go_ret3
    exact ⟨_, _, _, rfl, B5.out⟩

theorem md_sym (a b c : Int) : (mdOf b a c).2 = (mdOf a b c).2 := by
  have h : mdOk b a c = mdOk a b c := by unfold mdOk; rw [decide_eq_decide]; omega
  simp only [mdOf, h, mdQ, Int.mul_comm b a]
theorem md_ok {a b c : Int} (h : (mdOf a b c).2 = 0) : (mdOf a b c).1 = a * b / c ∧ 0 ≤ a ∧ 0 ≤ b ∧ 1 ≤ c ∧ c ≤ 1000000000000 ∧ a * b / c ≤ 1000000000000 := by
  unfold mdOf at h ⊢
  split at h
  · rename_i ho
    have h' : 0 ≤ a ∧ a ≤ 1000000000000 ∧ 0 ≤ b ∧ b ≤ 1000000000000 ∧ 1 ≤ c ∧ c ≤ 1000000000000 := by simpa [mdOk] using ho
    rw [if_pos ho]
    unfold mdQ at h ⊢
    split at h
    · rename_i hq
      rw [if_pos hq]
      exact ⟨rfl, h'.1, h'.2.2.1, h'.2.2.2.2.1, h'.2.2.2.2.2, hq⟩
    · simp at h
  · simp at h
theorem fieldC (v c : Int) (w : World) : Sem.run Try.prog (Instr.field 26 (M v c) 1) w = .ok (.int .i64 c) w := by kernel_rfl

set_option maxHeartbeats 1000000 in
theorem law4 (sl : Option Addr) (len cap : Nat) (w : World) (hr : RowIn w sl len) (hlen : len ≤ 1048576) :
    Calls Try.prog 4 #[.slice sl len cap] w fun e w' => e = .returned (.bool true) ∧ Below w.heap.size w w' := by
  have HR : Hid (RowIn w sl len) := hr
  clear hr
  have hlen' : ¬ ((1048576 : Int) < (len : Int)) := by omega
  go_enter Try.func4, Try.ntmps4
  go_wp2_with fail
  refine (drawMulDiv_any sl len cap _ HR.out).mono ?_
  rintro e w1 ⟨a, b, c, rfl, B1⟩
  have X1 : Hid (Below w.heap.size w w1) := B1
  clear B1
  have K1 : Hid (∀ w, Calls Try.prog 20 #[.int .i64 a, .int .i64 b, .int .i64 c] w fun e w' => e = .returned (M (mdOf a b c).1 (mdOf a b c).2) ∧ Below w.heap.size w w') := fun w => smd_any a b c w
  have K2 : Hid (∀ w, Calls Try.prog 21 #[.int .i64 a, .int .i64 b, .int .i64 c] w fun e w' => e = .returned (M (mdOf a b c).1 (mdOf a b c).2) ∧ Below w.heap.size w w') := fun w => imd_any a b c w
  have K3 : Hid (∀ w, Calls Try.prog 21 #[.int .i64 b, .int .i64 a, .int .i64 c] w fun e w' => ∃ z, e = .returned (M z (mdOf a b c).2) ∧ Below w.heap.size w w') := by
    intro w
    refine (imd_any b a c w).mono ?_
    rintro e w' ⟨rfl, h⟩
    exact ⟨_, by rw [md_sym], h⟩
  have HV : Hid ((mdOf a b c).2 = 0 → (mdOf a b c).1 = a * b / c ∧ 0 ≤ a ∧ 0 ≤ b ∧ 1 ≤ c ∧ c ≤ 1000000000000 ∧ a * b / c ≤ 1000000000000) := fun h => md_ok h
  generalize (mdOf a b c).1 = v at *
  generalize (mdOf a b c).2 = d at *
  go_wp2_with fail
  refine (K1.out _).mono ?_
  rintro e w2 ⟨rfl, B2⟩
  have X2 : Hid (Below w.heap.size w w2) := bT X1.out B2
  clear B2 X1
  go_wp2_with fail
  refine (K2.out _).mono ?_
  rintro e w3 ⟨rfl, B3⟩
  have M3 := ((MAt.new w2 v d).below B3).below (bA0 w3 (.cells #[.int .i64 v, .int .i64 d] 26))
  have N3 := MAt.new w3 v d
  have X3 : Hid (Below w.heap.size w (w3.alloc (.cells #[.int .i64 v, .int .i64 d] 26))) := bA (bT (bA X2.out _) B3) _
  clear B3 X2 K1 K2
  go_wp2_with fail
  obtain ⟨u50, u51, _⟩ := M3.cells
  obtain ⟨u60, u61, _⟩ := N3.cells
  have us5 := M3.lt
  have us6 := N3.lt
  clear M3 N3
  generalize w3.alloc (.cells #[.int .i64 v, .int .i64 d] 26) = u at *
  generalize w2.heap.size = q5 at *
  generalize w3.heap.size = q6 at *
  have hfc : ∀ z w, Sem.run Try.prog (Instr.field 26 (M z d) 1) w = .ok (.int .i64 d) w := fun z w => fieldC z d w
  go_region_held3 (fun w' => q5 < w'.heap.size ∧ q6 < w'.heap.size ∧ w'.cell? ⟨q5, 0, none⟩ = some (.int .i64 v) ∧ w'.cell? ⟨q5, 1, none⟩ = some (.int .i64 d) ∧ w'.cell? ⟨q6, 0, none⟩ = some (.int .i64 v) ∧ w'.cell? ⟨q6, 1, none⟩ = some (.int .i64 d)) (first | exact ⟨us5, us6, u50, u51, u60, u61⟩ | exact ⟨Nat.lt_of_lt_of_le us5 B4.size, Nat.lt_of_lt_of_le us6 B4.size, (B4.cell us5).trans u50, (B4.cell us5).trans u51, (B4.cell us6).trans u60, (B4.cell us6).trans u61⟩)
    (first | (go_at_call 21; refine (K3.out _).mono ?_; rintro e w4 ⟨z, rfl, B4⟩))
  have v51 : w4.cell? ⟨q5, 1, none⟩ = some (.int .i64 d) := (B4.cell us5).trans u51
  have v60 : w4.cell? ⟨q6, 0, none⟩ = some (.int .i64 v) := (B4.cell us6).trans u60
  have V : Hid (Below w.heap.size w w4) := bT X3.out.drew B4
  rename_i hHeld
  clear hHeld B4 u50 u51 u60 u61 us5 us6 X3 K3 hfc
  by_cases hd : d = 0
  · subst hd
    obtain ⟨e1, a0, b0, c0, c1, q1⟩ := HV.out rfl
    by_cases ha : 2000000 < a
    · clear HV e1 q1
      go_wp2
      go_ret
      exact ⟨rfl, V.out⟩
    · by_cases hb : 2000000 < b
      · clear HV e1 q1
        go_wp2
        go_ret
        exact ⟨rfl, V.out⟩
      · have p0 : 0 ≤ a * b := Int.mul_nonneg a0 b0
        have p1 : a * b ≤ 2000000 * 2000000 := Int.mul_le_mul (by omega) (by omega) b0 (by omega)
        have m1 : v * c ≤ a * b := by rw [e1]; exact Int.ediv_mul_le _ (by omega)
        have m2 : a * b < (v + 1) * c := by rw [e1]; exact Int.lt_ediv_add_one_mul_self _ (by omega)
        have v0 : 0 ≤ v := by rw [e1]; exact Int.ediv_nonneg p0 (by omega)
        have m0 : 0 ≤ v * c := Int.mul_nonneg v0 (by omega)
        rw [Int.add_mul] at m2
        clear HV e1 q1
        generalize hP : a * b = P at *
        generalize hR : v * c = R at *
        have t1 : P - R < c := by omega
        go_wp2
        go_ret
        exact ⟨rfl, V.out⟩
  · have hd' : (d != 0) = true := by simp [hd]
    go_wp2
    go_ret
    exact ⟨rfl, V.out⟩

theorem law4_long (sl : Option Addr) (len cap : Nat) (w : World) (hlen : 1048576 < len) :
    Calls Try.prog 4 #[.slice sl len cap] w fun e w' => e = .returned (.bool true) ∧ Below w.heap.size w w' := by
  have hlen' : (1048576 : Int) < (len : Int) := by omega
  go_enter Try.func4, Try.ntmps4
  go_wp2
  go_ret
  exact ⟨rfl, Below.refl _ _⟩

theorem law4_all (sl : Option Addr) (len cap : Nat) (w : World) (hr : RowIn w sl len) :
    Calls Try.prog 4 #[.slice sl len cap] w fun e w' => e = .returned (.bool true) ∧ Below w.heap.size w w' := by
  by_cases h : len ≤ 1048576
  · exact law4 sl len cap w hr h
  · exact law4_long sl len cap w (by omega)

end Go.Proofs.Ytcganhhnkidddaa
