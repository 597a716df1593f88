/-
  THE LAW FnMoney: its walk.
-/
import Derived.Test.YtcganhhnkidddaaMe
import Derived.Test.YtcganhhnkidddaaDc
import Derived.Deep.RegionHeld3
namespace Go.Proofs.Ytcganhhnkidddaa
open Go.RowKit
set_option linter.unusedVariables false

set_option maxHeartbeats 400000 in
theorem drawMul_any (sl : Option Addr) (len cap : Nat) (w : World) (hr : RowIn w sl len) :
    Calls Try.prog 16 #[.slice sl len cap] w fun e w' => ∃ x y : Int, e = .returned (.tuple #[.int .i64 x, .int .i64 y]) ∧ I64 x ∧ I64 y ∧ Below w.heap.size w w' := by
  have HR : Hid (RowIn w sl len) := hr
  clear hr
  go_enter Try.func16, Try.ntmps16
  go_wp2_with fail
  refine (source_any sl len cap _ HR.out).mono ?_
  rintro e w1 ⟨rfl, s1, b1⟩
  have H1 : Hid (Src w1 w.heap.size) := s1
  have B1 : Hid (Below w.heap.size w w1) := b1
  clear s1 b1
  go_wp2_with fail
  refine (money_any _ _ H1.out).mono ?_
  rintro e w2 ⟨x, rfl, hx, s2, o2⟩
  have H2 : Hid (Src w2 w.heap.size) := s2
  have B2 : Hid (Below w.heap.size w w2) := o2.below B1.out (Nat.le_refl _)
  have X : Hid (I64 x) := hx
  clear s2 o2 H1 B1 hx
  go_wp2_with fail
  refine (one_any _ 2 _ (by decide) H2.out).mono ?_
  rintro e w3 ⟨t, rfl, s3, o3⟩
  have H3 : Hid (Src w3 w.heap.size) := s3
  have B3 : Hid (Below w.heap.size w w3) := o3.below B2.out (Nat.le_refl _)
  clear s3 o3 H2 B2
  cases t
  · go_wp2_with fail
    refine (money_any _ _ H3.out).mono ?_
    rintro e w4 ⟨y, rfl, hy, s4, o4⟩
    have B4 : Hid (Below w.heap.size w w4) := o4.below B3.out (Nat.le_refl _)
    have Y : Hid (I64 y) := hy
    clear s4 o4 H3 B3 hy
    go_wp2
    go_ret2
    exact ⟨_, _, rfl, X.out, Y.out, B4.out⟩
  · go_wp2_with fail
    refine (n_lt _ 2000 _ (by decide) (by decide) H3.out).mono ?_
    rintro e w4 ⟨y, rfl, y1, y2, s4, o4⟩
    have B4 : Hid (Below w.heap.size w w4) := o4.below B3.out (Nat.le_refl _)
    have Y : Hid (I64 (y - 900)) := ⟨by omega, by omega⟩
    clear s4 o4 H3 B3
    go_wp2
    go_ret2
    exact ⟨_, _, rfl, X.out, Y.out, B4.out⟩

theorem add_comm_any (a b v c : Int) (h1 : twoV b a (b + a) = v) (h2 : twoC b a (b + a) = c) (w : World) :
    Calls Try.prog 14 #[.int .i64 b, .int .i64 a] w fun e w' => e = .returned (M v c) ∧ Below w.heap.size w w' := by
  subst h1; subst h2; exact add_any b a w

theorem field_code (v c : Int) (w : World) : Sem.run Try.prog (Instr.field 26 (M v c) 1) w = .ok (.int .i64 c) w := by kernel_rfl
theorem sub_back {a b v : Int} (hv : twoV a b (a + b) = v) (hc : twoC a b (a + b) = 0) : twoV v b (v - b) = a ∧ twoC v b (v - b) = 0 := by
  unfold twoC at hc
  split at hc
  · rename_i h
    unfold toldC at hc
    split at hc
    · rename_i h2
      have e : v = a + b := by rw [← hv]; simp [twoV, toldV, h, h2]
      have ha : isM a = true ∧ isM b = true := by simpa using h
      subst e
      have e2 : a + b - b = a := by omega
      rw [e2]
      simp [twoV, twoC, toldV, toldC, h2, ha.1, ha.2]
    · omega
  · omega
theorem mul_back {x n v : Int} (hv : twoV x n (x * n) = v) (hc : twoC x n (x * n) = 0) : v = x * n ∧ isM x = true ∧ isM n = true ∧ isM (x * n) = true := by
  unfold twoC at hc
  split at hc
  · rename_i h
    unfold toldC at hc
    split at hc
    · rename_i h2
      have ha : isM x = true ∧ isM n = true := by simpa using h
      exact ⟨by rw [← hv]; simp [twoV, toldV, h, h2], ha.1, ha.2, h2⟩
    · omega
  · omega

set_option maxHeartbeats 1000000 in
theorem law3 (sl : Option Addr) (len cap : Nat) (w : World) (hr : RowIn w sl len) (hlen : len ≤ 1048576) :
    Calls Try.prog 3 #[.slice sl len cap] w fun e w' => e = .returned (.bool true) ∧ Below w.heap.size w w' := by
  have HR : Hid (RowIn w sl len) := hr
  clear hr
  have hlen' : ¬ ((1048576 : Int) < (len : Int)) := by omega
  go_enter Try.func3, Try.ntmps3
  go_wp2_with fail
  refine (drawAdd_any sl len cap _ HR.out).mono ?_
  rintro e w1 ⟨a, b, rfl, ha, hb, B1⟩
  have X1 : Hid (I64 a ∧ I64 b ∧ Below w.heap.size w w1) := ⟨ha, hb, B1⟩
  clear ha hb B1
  go_wp2_with fail
  refine (sadd_any a b _).mono ?_
  rintro e w2 ⟨rfl, B2⟩
  go_wp2_with fail
  refine (add_any a b _).mono ?_
  rintro e w3 ⟨rfl, B3⟩
  go_wp2_with fail
  have hz := bZ B3
  have U : Hid (Below w.heap.size w (w3.alloc (.cells #[.int .i64 (twoV a b (a + b)), .int .i64 (twoC a b (a + b))] 26))) := bA (bT (bA (bT X1.out.2.2 B2) _) B3) _
  have k5 := fun o => (bA0 w3 (.cells #[.int .i64 (twoV a b (a + b)), .int .i64 (twoC a b (a + b))] 26)).cell (p := ⟨w2.heap.size, o, none⟩) hz
  have k5' := fun o => (bcell B3).1 w2.heap.size o (by simp)
  have u50 : (w3.alloc (.cells #[.int .i64 (twoV a b (a + b)), .int .i64 (twoC a b (a + b))] 26)).cell? ⟨w2.heap.size, 0, none⟩ = some (.int .i64 (twoV a b (a + b))) := by rw [k5, k5']; simp
  have u51 : (w3.alloc (.cells #[.int .i64 (twoV a b (a + b)), .int .i64 (twoC a b (a + b))] 26)).cell? ⟨w2.heap.size, 1, none⟩ = some (.int .i64 (twoC a b (a + b))) := by rw [k5, k5']; simp
  have u60 : (w3.alloc (.cells #[.int .i64 (twoV a b (a + b)), .int .i64 (twoC a b (a + b))] 26)).cell? ⟨w3.heap.size, 0, none⟩ = some (.int .i64 (twoV a b (a + b))) := by simp
  have u61 : (w3.alloc (.cells #[.int .i64 (twoV a b (a + b)), .int .i64 (twoC a b (a + b))] 26)).cell? ⟨w3.heap.size, 1, none⟩ = some (.int .i64 (twoC a b (a + b))) := by simp
  have us5 : w2.heap.size < (w3.alloc (.cells #[.int .i64 (twoV a b (a + b)), .int .i64 (twoC a b (a + b))] 26)).heap.size := by simp; omega
  have us6 : w3.heap.size < (w3.alloc (.cells #[.int .i64 (twoV a b (a + b)), .int .i64 (twoC a b (a + b))] 26)).heap.size := by simp
  clear k5 k5' B2 B3 hz
  generalize w3.alloc (.cells #[.int .i64 (twoV a b (a + b)), .int .i64 (twoC a b (a + b))] 26) = u at *
  generalize w2.heap.size = q5 at *
  generalize w3.heap.size = q6 at *
  have K : ∀ w, Calls Try.prog 14 #[.int .i64 b, .int .i64 a] w fun e w' => e = .returned (M (twoV a b (a + b)) (twoC a b (a + b))) ∧ Below w.heap.size w w' := by
    intro w
    have := add_any b a w
    rw [show twoV b a (b + a) = twoV a b (a + b) by simp [twoV, Bool.and_comm, Int.add_comm], show twoC b a (b + a) = twoC a b (a + b) by simp [twoC, Bool.and_comm, Int.add_comm]] at this
    exact this
  have HK : Hid (∀ w, Calls Try.prog 14 #[.int .i64 b, .int .i64 a] w fun e w' => e = .returned (M (twoV a b (a + b)) (twoC a b (a + b))) ∧ Below w.heap.size w w') := K
  clear K
  generalize hv : twoV a b (a + b) = v at *
  generalize hc : twoC a b (a + b) = c at *
  have HV : Hid (twoV a b (a + b) = v ∧ twoC a b (a + b) = c) := ⟨hv, hc⟩
  clear hv hc
  go_region_held3 (fun w' => q5 < w'.heap.size ∧ q6 < w'.heap.size ∧ w'.cell? ⟨q5, 0, none⟩ = some (.int .i64 v) ∧ w'.cell? ⟨q5, 1, none⟩ = some (.int .i64 c) ∧ w'.cell? ⟨q6, 0, none⟩ = some (.int .i64 v) ∧ w'.cell? ⟨q6, 1, none⟩ = some (.int .i64 c)) (first | exact ⟨us5, us6, u50, u51, u60, u61⟩ | exact ⟨Nat.lt_of_lt_of_le us5 B4.size, Nat.lt_of_lt_of_le us6 B4.size, (B4.cell us5).trans u50, (B4.cell us5).trans u51, (B4.cell us6).trans u60, (B4.cell us6).trans u61⟩)
    (first | (go_at_call 14; refine (HK.out _).mono ?_; rintro e w4 ⟨rfl, B4⟩; obtain ⟨hc4, hf4⟩ := bcell B4; have hz4 := B4.size))
  have v50 : w4.cell? ⟨q5, 0, none⟩ = some (.int .i64 v) := (B4.cell us5).trans u50
  have v51 : w4.cell? ⟨q5, 1, none⟩ = some (.int .i64 c) := (B4.cell us5).trans u51
  have v60 : w4.cell? ⟨q6, 0, none⟩ = some (.int .i64 v) := (B4.cell us6).trans u60
  have v61 : w4.cell? ⟨q6, 1, none⟩ = some (.int .i64 c) := (B4.cell us6).trans u61
  have V : Hid (Below w.heap.size w w4) := bT U.out.drew B4
  rename_i hHeld
  clear hHeld B4 hc4 hf4 hz4 u50 u51 u60 u61 us5 us6 U X1 HK
  by_cases hc : c = 0
  · subst hc
    obtain ⟨e1, e2⟩ := sub_back HV.out.1 HV.out.2
    have HS : Hid (∀ w, Calls Try.prog 15 #[.int .i64 v, .int .i64 b] w fun e w' => e = .returned (M a 0) ∧ Below w.heap.size w w') := by
      intro w
      have := sub_any v b w
      rw [e1, e2] at this
      exact this
    clear e1 e2
    go_wp2_with fail
    refine (HS.out _).mono ?_
    rintro e w5 ⟨rfl, B5⟩
    have BB : Hid (Below w.heap.size w w5) := bT V.out B5
    clear HS B5 V v50 v51 v60 v61
    go_wp2_with fail
    refine (drawMul_any sl len cap _ (HR.out.below BB.out)).mono ?_
    rintro e w6 ⟨x, n, rfl, hx, hn, B6⟩
    have X6 : Hid (I64 x ∧ I64 n ∧ Below w.heap.size w w6) := ⟨hx, hn, bT BB.out B6⟩
    clear hx hn B6 BB
    go_wp2_with fail
    refine (mul_any x n _).mono ?_
    rintro e w7 ⟨rfl, B7⟩
    go_wp2_with fail
    have Z : Hid (Below w.heap.size w (w7.alloc (.cells #[.int .i64 (twoV x n (x * n)), .int .i64 (twoC x n (x * n))] 26))) := bA (bT X6.out.2.2 B7) _
    have z0 : (w7.alloc (.cells #[.int .i64 (twoV x n (x * n)), .int .i64 (twoC x n (x * n))] 26)).cell? ⟨w7.heap.size, 0, none⟩ = some (.int .i64 (twoV x n (x * n))) := by simp
    have z1 : (w7.alloc (.cells #[.int .i64 (twoV x n (x * n)), .int .i64 (twoC x n (x * n))] 26)).cell? ⟨w7.heap.size, 1, none⟩ = some (.int .i64 (twoC x n (x * n))) := by simp
    have zs : w7.heap.size < (w7.alloc (.cells #[.int .i64 (twoV x n (x * n)), .int .i64 (twoC x n (x * n))] 26)).heap.size := by simp
    clear B7
    generalize w7.alloc (.cells #[.int .i64 (twoV x n (x * n)), .int .i64 (twoC x n (x * n))] 26) = z at *
    generalize w7.heap.size = q9 at *
    have HM : Hid (∀ w, Calls Try.prog 18 #[.int .i64 x, .int .i64 n] w fun e w' => e = .returned (M (twoV x n (x * n)) (twoC x n (x * n))) ∧ Below w.heap.size w w') := fun w => smul_any x n w
    generalize hpv : twoV x n (x * n) = pv at *
    generalize hpc : twoC x n (x * n) = pc at *
    have HP : Hid (twoV x n (x * n) = pv ∧ twoC x n (x * n) = pc) := ⟨hpv, hpc⟩
    clear hpv hpc
    have hfc := field_code pv pc
    go_region_held3 (fun w' => q9 < w'.heap.size ∧ w'.cell? ⟨q9, 0, none⟩ = some (.int .i64 pv) ∧ w'.cell? ⟨q9, 1, none⟩ = some (.int .i64 pc)) (first | exact ⟨zs, z0, z1⟩ | exact ⟨Nat.lt_of_lt_of_le zs B8.size, (B8.cell zs).trans z0, (B8.cell zs).trans z1⟩)
      (first | (go_at_call 18; refine (HM.out _).mono ?_; rintro e w8 ⟨rfl, B8⟩))
    have y0 : w8.cell? ⟨q9, 0, none⟩ = some (.int .i64 pv) := (B8.cell zs).trans z0
    have y1 : w8.cell? ⟨q9, 1, none⟩ = some (.int .i64 pc) := (B8.cell zs).trans z1
    have Y : Hid (Below w.heap.size w w8) := bT Z.out.drew B8
    clear B8 z0 z1 zs hfc
    by_cases hpc : pc = 0
    · subst hpc
      by_cases hn : n = 0
      · subst hn
        go_wp2
        go_ret
        exact ⟨rfl, Y.out⟩
      · have hn' : (n == 0) = false := by simp [hn]
        obtain ⟨e, m1, m2, m3⟩ := mul_back HP.out.1 HP.out.2
        have HE : Hid (pv = x * n) := e
        obtain ⟨p1, p2⟩ : -1000000000000 ≤ pv ∧ pv ≤ 1000000000000 := by rw [e]; exact isM_t m3
        obtain ⟨x1, x2⟩ := isM_t m1
        obtain ⟨n1, n2⟩ := isM_t m2
        have hq : pv.tdiv n = x := by rw [e]; exact Int.mul_tdiv_cancel x hn
        have hr : pv.tmod n = 0 := by rw [e]; exact Int.mul_tmod_left x n
        clear e m1 m2 m3
        go_wp2
        go_ret
        exact ⟨rfl, Y.out⟩
    · have hpc' : (pc != 0) = true := by simp [hpc]
      go_wp2
      go_ret
      exact ⟨rfl, Y.out⟩
  · have hc' : (c == 0) = false := by simp [hc]
    have BB : Hid (Below w.heap.size w w4) := V.out
    clear V
    go_wp2_with fail
    refine (drawMul_any sl len cap _ (HR.out.below BB.out)).mono ?_
    rintro e w6 ⟨x, n, rfl, hx, hn, B6⟩
    have X6 : Hid (I64 x ∧ I64 n ∧ Below w.heap.size w w6) := ⟨hx, hn, bT BB.out B6⟩
    clear hx hn B6 BB
    go_wp2_with fail
    refine (mul_any x n _).mono ?_
    rintro e w7 ⟨rfl, B7⟩
    go_wp2_with fail
    have Z : Hid (Below w.heap.size w (w7.alloc (.cells #[.int .i64 (twoV x n (x * n)), .int .i64 (twoC x n (x * n))] 26))) := bA (bT X6.out.2.2 B7) _
    have z0 : (w7.alloc (.cells #[.int .i64 (twoV x n (x * n)), .int .i64 (twoC x n (x * n))] 26)).cell? ⟨w7.heap.size, 0, none⟩ = some (.int .i64 (twoV x n (x * n))) := by simp
    have z1 : (w7.alloc (.cells #[.int .i64 (twoV x n (x * n)), .int .i64 (twoC x n (x * n))] 26)).cell? ⟨w7.heap.size, 1, none⟩ = some (.int .i64 (twoC x n (x * n))) := by simp
    have zs : w7.heap.size < (w7.alloc (.cells #[.int .i64 (twoV x n (x * n)), .int .i64 (twoC x n (x * n))] 26)).heap.size := by simp
    clear B7
    generalize w7.alloc (.cells #[.int .i64 (twoV x n (x * n)), .int .i64 (twoC x n (x * n))] 26) = z at *
    generalize w7.heap.size = q9 at *
    have HM : Hid (∀ w, Calls Try.prog 18 #[.int .i64 x, .int .i64 n] w fun e w' => e = .returned (M (twoV x n (x * n)) (twoC x n (x * n))) ∧ Below w.heap.size w w') := fun w => smul_any x n w
    generalize hpv : twoV x n (x * n) = pv at *
    generalize hpc : twoC x n (x * n) = pc at *
    have HP : Hid (twoV x n (x * n) = pv ∧ twoC x n (x * n) = pc) := ⟨hpv, hpc⟩
    clear hpv hpc
    have hfc := field_code pv pc
    go_region_held3 (fun w' => q9 < w'.heap.size ∧ w'.cell? ⟨q9, 0, none⟩ = some (.int .i64 pv) ∧ w'.cell? ⟨q9, 1, none⟩ = some (.int .i64 pc)) (first | exact ⟨zs, z0, z1⟩ | exact ⟨Nat.lt_of_lt_of_le zs B8.size, (B8.cell zs).trans z0, (B8.cell zs).trans z1⟩)
      (first | (go_at_call 18; refine (HM.out _).mono ?_; rintro e w8 ⟨rfl, B8⟩))
    have y0 : w8.cell? ⟨q9, 0, none⟩ = some (.int .i64 pv) := (B8.cell zs).trans z0
    have y1 : w8.cell? ⟨q9, 1, none⟩ = some (.int .i64 pc) := (B8.cell zs).trans z1
    have Y : Hid (Below w.heap.size w w8) := bT Z.out.drew B8
    clear B8 z0 z1 zs hfc
    by_cases hpc : pc = 0
    · subst hpc
      by_cases hn : n = 0
      · subst hn
        go_wp2
        go_ret
        exact ⟨rfl, Y.out⟩
      · have hn' : (n == 0) = false := by simp [hn]
        obtain ⟨e, m1, m2, m3⟩ := mul_back HP.out.1 HP.out.2
        have HE : Hid (pv = x * n) := e
        obtain ⟨p1, p2⟩ : -1000000000000 ≤ pv ∧ pv ≤ 1000000000000 := by rw [e]; exact isM_t m3
        obtain ⟨x1, x2⟩ := isM_t m1
        obtain ⟨n1, n2⟩ := isM_t m2
        have hq : pv.tdiv n = x := by rw [e]; exact Int.mul_tdiv_cancel x hn
        have hr : pv.tmod n = 0 := by rw [e]; exact Int.mul_tmod_left x n
        clear e m1 m2 m3
        go_wp2
        go_ret
        exact ⟨rfl, Y.out⟩
    · have hpc' : (pc != 0) = true := by simp [hpc]
      go_wp2
      go_ret
      exact ⟨rfl, Y.out⟩

theorem law3_long (sl : Option Addr) (len cap : Nat) (w : World) (hlen : 1048576 < len) :
    Calls Try.prog 3 #[.slice sl len cap] w fun e w' => e = .returned (.bool true) ∧ Below w.heap.size w w' := by
  have hlen' : (1048576 : Int) < (len : Int) := by omega
  go_enter Try.func3, Try.ntmps3
  go_wp2
  go_ret
  exact ⟨rfl, Below.refl _ _⟩

theorem law3_all (sl : Option Addr) (len cap : Nat) (w : World) (hr : RowIn w sl len) :
    Calls Try.prog 3 #[.slice sl len cap] w fun e w' => e = .returned (.bool true) ∧ Below w.heap.size w w' := by
  by_cases h : len ≤ 1048576
  · exact law3 sl len cap w hr h
  · exact law3_long sl len cap w (by omega)

end Go.Proofs.Ytcganhhnkidddaa
