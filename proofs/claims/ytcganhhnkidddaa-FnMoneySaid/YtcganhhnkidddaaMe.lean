/-
  PRODUCTS OF MONEY: both sides.
-/
import Derived.Test.YtcganhhnkidddaaMd
namespace Go.Proofs.Ytcganhhnkidddaa
open Go.RowKit

theorem mag_nn (v : Int) : 0 ≤ mag v := by unfold mag; omega
theorem mag_le {v : Int} (h : isM v = true) : mag v ≤ 1000000000000 := by have := isM_t h; unfold mag; omega
theorem mag_mul (a b : Int) : mag a * mag b = mag (a * b) := by unfold mag; rw [Int.natAbs_mul]; simp
theorem isM_mag (v : Int) : isM v = decide (mag v ≤ 1000000000000) := by
  unfold isM mag; rw [decide_eq_decide]; omega

set_option maxHeartbeats 400000 in
theorem mul_form (a b : Int) (h : (isM a && isM b) = false) (w : World) :
    Calls Try.prog 17 #[.int .i64 a, .int .i64 b] w fun e w' => e = .returned (M 0 1) ∧ Below w.heap.size w w' := by
  cases h1 : isM a
  · clear h
    go_enter Try.func17, Try.ntmps17
    go_wp2_with (go_at_call 37; refine (inBound0_any _ _).mono ?_; rintro e w1 ⟨rfl, hb⟩; obtain ⟨hc, hf⟩ := bcell hb; have hz := bZ hb)
    refine bodyPost_ret (v := M 0 1) (by simp [results, Try.results17, go_sem, hc]) rfl ⟨rfl, ?_⟩
    exact ((bT (bA0 _ _) hb).setCell (Nat.le_refl _) _).setCell (Nat.le_refl _) _
  · have h2 : isM b = false := by simpa [h1] using h
    clear h
    go_enter Try.func17, Try.ntmps17
    go_wp2_with fail
    refine (inBound0_any _ _).mono ?_
    rintro e w1 ⟨rfl, hb⟩
    go_wp2_with fail
    refine (inBound0_any _ _).mono ?_
    rintro e w2 ⟨rfl, hb2⟩
    have hb3 := bT hb hb2
    obtain ⟨hc, hf⟩ := bcell hb3; have hz := bZ hb3; clear hb hb2
    go_wp2_with fail
    refine bodyPost_ret (v := M 0 1) (by simp [results, Try.results17, go_sem, hc]) rfl ⟨rfl, ?_⟩
    exact ((bT (bA0 _ _) hb3).setCell (Nat.le_refl _) _).setCell (Nat.le_refl _) _

theorem wprod_small (x y p : Int) (hx : 0 ≤ x ∧ x ≤ 1000000000000) (hy : 0 ≤ y ∧ y ≤ 1000000000000) (hp : x * y = p) (hle : p ≤ 1000000000000) (w : World) :
    Calls Try.prog 43 #[.int .u64 x, .int .u64 y] w fun e w' => e = .returned (W2 0 p) ∧ Below w.heap.size w w' := by
  have h := wprod_any x y (by omega) (by omega) w
  have h0 : 0 ≤ x * y := Int.mul_nonneg hx.1 hy.1
  have e1 : x * y / 18446744073709551616 = 0 := by omega
  have e2 : x * y % 18446744073709551616 = p := by omega
  rw [e1, e2] at h
  exact h

theorem wprod_great (x y : Int) (hx : 0 ≤ x ∧ x ≤ 1000000000000) (hy : 0 ≤ y ∧ y ≤ 1000000000000) (hgt : 1000000000000 < x * y) (w : World) :
    Calls Try.prog 43 #[.int .u64 x, .int .u64 y] w fun e w' => ∃ h l, e = .returned (W2 h l) ∧ (decide ((0 : Int) < h ∨ ((0 : Int) = h ∧ 1000000000000 < l)) = true) ∧ Below w.heap.size w w' := by
  refine (wprod_any x y (by omega) (by omega) w).mono ?_
  rintro e w' ⟨rfl, hb⟩
  refine ⟨_, _, rfl, ?_, hb⟩
  simp only [decide_eq_true_eq]
  omega

set_option maxHeartbeats 400000 in
theorem mul_over (a b : Int) (h1 : isM a = true) (h2 : isM b = true) (hgt : 1000000000000 < mag a * mag b) (w : World) :
    Calls Try.prog 17 #[.int .i64 a, .int .i64 b] w fun e w' => e = .returned (M 0 4) ∧ Below w.heap.size w w' := by
  have HG : Hid (1000000000000 < mag a * mag b) := hgt
  clear hgt
  go_enter Try.func17, Try.ntmps17
  go_wp2_with fail
  refine (inBound0_any _ _).mono ?_
  rintro e w1 ⟨rfl, hb⟩
  go_wp2_with fail
  refine (inBound0_any _ _).mono ?_
  rintro e w2 ⟨rfl, hb2⟩
  have hb3 := bT hb hb2; clear hb hb2
  go_wp2_with (first | (go_at_call 44; refine (mag_any _ (by assumption) _).mono ?_; rintro e w' ⟨rfl, rfl⟩) | fail)
  refine (wprod_great _ _ ⟨mag_nn a, mag_le h1⟩ ⟨mag_nn b, mag_le h2⟩ HG.out _).mono ?_
  rintro e w3 ⟨h, l, rfl, hd, hb4⟩
  have hb5 := bT hb3 hb4; clear hb3 hb4
  go_wp2_with fail
  refine (below_any _ _ _ _ _).mono ?_
  rintro e w4 ⟨rfl, hb6⟩
  have hb7 := bT (bA (bA hb5 _) _) hb6
  obtain ⟨hc, hf⟩ := bcell hb7; clear hb5 hb6
  go_wp2_with fail
  refine bodyPost_ret (v := M 0 4) (by simp [results, Try.results17, go_sem, hc]) rfl ⟨rfl, ?_⟩
  exact ((bT (bA0 _ _) hb7).setCell (Nat.le_refl _) _).setCell (Nat.le_refl _) _

def sgn (a b p : Int) : Int := if (decide (a < 0) != decide (b < 0)) = true then -p else p

set_option maxHeartbeats 400000 in
theorem mul_ok (a b p : Int) (h1 : isM a = true) (h2 : isM b = true) (hp : mag a * mag b = p) (h0 : 0 ≤ p) (hle : p ≤ 1000000000000) (w : World) :
    Calls Try.prog 17 #[.int .i64 a, .int .i64 b] w fun e w' => e = .returned (M (sgn a b p) 0) ∧ Below w.heap.size w w' := by
  have HG : Hid (mag a * mag b = p) := hp
  have HB : Hid ((decide ((0 : Int) < 0 ∨ ((0 : Int) = 0 ∧ 1000000000000 < p))) = false) := by
    show (decide ((0 : Int) < 0 ∨ ((0 : Int) = 0 ∧ 1000000000000 < p))) = false
    simp only [decide_eq_false_iff_not]; omega
  clear hp
  have K1 : ∀ w, Calls Try.prog 43 #[.int .u64 (mag a), .int .u64 (mag b)] w fun e w' => e = .returned (W2 0 p) ∧ Below w.heap.size w w' :=
    fun w => wprod_small _ _ p ⟨mag_nn a, mag_le h1⟩ ⟨mag_nn b, mag_le h2⟩ HG.out hle w
  have K2 : ∀ w, Calls Try.prog 45 #[W2 0 1000000000000, W2 0 p] w fun e w' => e = .returned (.bool false) ∧ Below w.heap.size w w' := by
    intro w; have := below_any 0 1000000000000 0 p w; rw [HB.out] at this; exact this
  have H1 : Hid (∀ w, Calls Try.prog 43 #[.int .u64 (mag a), .int .u64 (mag b)] w fun e w' => e = .returned (W2 0 p) ∧ Below w.heap.size w w') := K1
  have H2 : Hid (∀ w, Calls Try.prog 45 #[W2 0 1000000000000, W2 0 p] w fun e w' => e = .returned (.bool false) ∧ Below w.heap.size w w') := K2
  clear K1 K2
  by_cases sa : a < 0
  · by_cases sb : b < 0
    · have es : sgn a b p = p := by simp [sgn, sa, sb]
      have da : decide (a < 0) = true := decide_eq_true sa
      have db : decide (b < 0) = true := decide_eq_true sb
      rw [es]; clear es
      go_enter Try.func17, Try.ntmps17
      go_wp2_with fail
      refine (inBound0_any _ _).mono ?_
      rintro e w1 ⟨rfl, hb⟩
      go_wp2_with fail
      refine (inBound0_any _ _).mono ?_
      rintro e w2 ⟨rfl, hb2⟩
      have hb3 := bT hb hb2; clear hb hb2
      go_wp2_with (first | (go_at_call 44; refine (mag_any _ (by assumption) _).mono ?_; rintro e w' ⟨rfl, rfl⟩) | fail)
      refine (H1.out _).mono ?_
      rintro e w3 ⟨rfl, hb4⟩
      have hb5 := bT hb3 hb4; clear hb3 hb4
      go_wp2_with fail
      refine (H2.out _).mono ?_
      rintro e w4 ⟨rfl, hb6⟩
      have hb7 := bT (bA (bA hb5 _) _) hb6
      obtain ⟨hc, hf⟩ := bcell hb7
      obtain ⟨hc6, hf6⟩ := bcell hb6; clear hb5 hb6
      go_wp2_with fail
      refine bodyPost_ret (v := M (p) 0) (by simp [results, Try.results17, go_sem, hc]) rfl ⟨rfl, ?_⟩
      exact ((bT (bA0 _ _) hb7).setCell (Nat.le_refl _) _).setCell (Nat.le_refl _) _
    · have es : sgn a b p = -p := by simp [sgn, sa, sb]
      have da : decide (a < 0) = true := decide_eq_true sa
      have db : decide (b < 0) = false := decide_eq_false sb
      rw [es]; clear es
      go_enter Try.func17, Try.ntmps17
      go_wp2_with fail
      refine (inBound0_any _ _).mono ?_
      rintro e w1 ⟨rfl, hb⟩
      go_wp2_with fail
      refine (inBound0_any _ _).mono ?_
      rintro e w2 ⟨rfl, hb2⟩
      have hb3 := bT hb hb2; clear hb hb2
      go_wp2_with (first | (go_at_call 44; refine (mag_any _ (by assumption) _).mono ?_; rintro e w' ⟨rfl, rfl⟩) | fail)
      refine (H1.out _).mono ?_
      rintro e w3 ⟨rfl, hb4⟩
      have hb5 := bT hb3 hb4; clear hb3 hb4
      go_wp2_with fail
      refine (H2.out _).mono ?_
      rintro e w4 ⟨rfl, hb6⟩
      have hb7 := bT (bA (bA hb5 _) _) hb6
      obtain ⟨hc, hf⟩ := bcell hb7
      obtain ⟨hc6, hf6⟩ := bcell hb6; clear hb5 hb6
      go_wp2_with fail
      refine bodyPost_ret (v := M (-p) 0) (by simp [results, Try.results17, go_sem, hc]) rfl ⟨rfl, ?_⟩
      exact ((bT (bA0 _ _) hb7).setCell (Nat.le_refl _) _).setCell (Nat.le_refl _) _
  · by_cases sb : b < 0
    · have es : sgn a b p = -p := by simp [sgn, sa, sb]
      have da : decide (a < 0) = false := decide_eq_false sa
      have db : decide (b < 0) = true := decide_eq_true sb
      rw [es]; clear es
      go_enter Try.func17, Try.ntmps17
      go_wp2_with fail
      refine (inBound0_any _ _).mono ?_
      rintro e w1 ⟨rfl, hb⟩
      go_wp2_with fail
      refine (inBound0_any _ _).mono ?_
      rintro e w2 ⟨rfl, hb2⟩
      have hb3 := bT hb hb2; clear hb hb2
      go_wp2_with (first | (go_at_call 44; refine (mag_any _ (by assumption) _).mono ?_; rintro e w' ⟨rfl, rfl⟩) | fail)
      refine (H1.out _).mono ?_
      rintro e w3 ⟨rfl, hb4⟩
      have hb5 := bT hb3 hb4; clear hb3 hb4
      go_wp2_with fail
      refine (H2.out _).mono ?_
      rintro e w4 ⟨rfl, hb6⟩
      have hb7 := bT (bA (bA hb5 _) _) hb6
      obtain ⟨hc, hf⟩ := bcell hb7
      obtain ⟨hc6, hf6⟩ := bcell hb6; clear hb5 hb6
      go_wp2_with fail
      refine bodyPost_ret (v := M (-p) 0) (by simp [results, Try.results17, go_sem, hc]) rfl ⟨rfl, ?_⟩
      exact ((bT (bA0 _ _) hb7).setCell (Nat.le_refl _) _).setCell (Nat.le_refl _) _
    · have es : sgn a b p = p := by simp [sgn, sa, sb]
      have da : decide (a < 0) = false := decide_eq_false sa
      have db : decide (b < 0) = false := decide_eq_false sb
      rw [es]; clear es
      go_enter Try.func17, Try.ntmps17
      go_wp2_with fail
      refine (inBound0_any _ _).mono ?_
      rintro e w1 ⟨rfl, hb⟩
      go_wp2_with fail
      refine (inBound0_any _ _).mono ?_
      rintro e w2 ⟨rfl, hb2⟩
      have hb3 := bT hb hb2; clear hb hb2
      go_wp2_with (first | (go_at_call 44; refine (mag_any _ (by assumption) _).mono ?_; rintro e w' ⟨rfl, rfl⟩) | fail)
      refine (H1.out _).mono ?_
      rintro e w3 ⟨rfl, hb4⟩
      have hb5 := bT hb3 hb4; clear hb3 hb4
      go_wp2_with fail
      refine (H2.out _).mono ?_
      rintro e w4 ⟨rfl, hb6⟩
      have hb7 := bT (bA (bA hb5 _) _) hb6
      obtain ⟨hc, hf⟩ := bcell hb7
      obtain ⟨hc6, hf6⟩ := bcell hb6; clear hb5 hb6
      go_wp2_with fail
      refine bodyPost_ret (v := M (p) 0) (by simp [results, Try.results17, go_sem, hc]) rfl ⟨rfl, ?_⟩
      exact ((bT (bA0 _ _) hb7).setCell (Nat.le_refl _) _).setCell (Nat.le_refl _) _

theorem sgn_eq (a b p : Int) (hp : mag a * mag b = p) : sgn a b p = a * b := by
  subst hp
  unfold sgn mag
  by_cases sa : a < 0
  · by_cases sb : b < 0
    · rw [show ((a.natAbs : Int)) = -a by omega, show ((b.natAbs : Int)) = -b by omega]; simp [sa, sb, Int.neg_mul, Int.mul_neg]
    · rw [show ((a.natAbs : Int)) = -a by omega, show ((b.natAbs : Int)) = b by omega]; simp [sa, sb, Int.neg_mul]
  · by_cases sb : b < 0
    · rw [show ((a.natAbs : Int)) = a by omega, show ((b.natAbs : Int)) = -b by omega]; simp [sa, sb, Int.mul_neg]
    · rw [show ((a.natAbs : Int)) = a by omega, show ((b.natAbs : Int)) = b by omega]; simp [sa, sb]

theorem mul_any (a b : Int) (w : World) :
    Calls Try.prog 17 #[.int .i64 a, .int .i64 b] w fun e w' => e = .returned (M (twoV a b (a * b)) (twoC a b (a * b))) ∧ Below w.heap.size w w' := by
  cases h : (isM a && isM b)
  · have e1 : twoV a b (a * b) = 0 := by simp [twoV, h]
    have e2 : twoC a b (a * b) = 1 := by simp [twoC, h]
    rw [e1, e2]
    exact mul_form a b h w
  · have h' : isM a = true ∧ isM b = true := by simpa using h
    by_cases hgt : 1000000000000 < mag a * mag b
    · have hm : isM (a * b) = false := by rw [isM_mag, ← mag_mul]; simp only [decide_eq_false_iff_not]; omega
      have e1 : twoV a b (a * b) = 0 := by simp [twoV, h, toldV, hm]
      have e2 : twoC a b (a * b) = 4 := by simp [twoC, h, toldC, hm]
      rw [e1, e2]
      exact mul_over a b h'.1 h'.2 hgt w
    · have hm : isM (a * b) = true := by rw [isM_mag, ← mag_mul]; simp only [decide_eq_true_eq]; omega
      have e1 : twoV a b (a * b) = sgn a b (mag a * mag b) := by rw [sgn_eq a b _ rfl]; simp [twoV, h, toldV, hm]
      have e2 : twoC a b (a * b) = 0 := by simp [twoC, h, toldC, hm]
      rw [e1, e2]
      exact mul_ok a b _ h'.1 h'.2 rfl (Int.mul_nonneg (mag_nn a) (mag_nn b)) (by omega) w

theorem smul_form (a b : Int) (h : (isM a && isM b) = false) (w : World) :
    Calls Try.prog 18 #[.int .i64 a, .int .i64 b] w fun e w' => e = .returned (M 0 1) ∧ Below w.heap.size w w' := by
  cases h1 : isM a
  · clear h
    go_enter Try.func18, Try.ntmps18
    go_wp2_with (go_at_call 35; refine (l01Money_any _ _).mono ?_; rintro e w1 ⟨rfl, rfl⟩)
    refine bodyPost_ret (v := M 0 1) (by simp [results, Try.results18, go_sem]) rfl ⟨rfl, ?_⟩
    exact bA0 _ _
  · have h2 : isM b = false := by simpa [h1] using h
    clear h
    go_enter Try.func18, Try.ntmps18
    go_wp2_with (go_at_call 35; refine (l01Money_any _ _).mono ?_; rintro e w1 ⟨rfl, rfl⟩)
    refine bodyPost_ret (v := M 0 1) (by simp [results, Try.results18, go_sem]) rfl ⟨rfl, ?_⟩
    exact bA0 _ _

set_option maxHeartbeats 400000 in
theorem smul_in (a b : Int) (h1 : isM a = true) (h2 : isM b = true) (w : World) :
    Calls Try.prog 18 #[.int .i64 a, .int .i64 b] w fun e w' => e = .returned (M (toldV (a * b)) (toldC (a * b))) ∧ Below w.heap.size w w' := by
  have a1 := mag_nn a
  have a2 := mag_le h1
  have b1 := mag_nn b
  have b2 := mag_le h2
  by_cases hz : a = 0
  · subst hz
    have z : (0 : Int) * b = 0 := by simp
    rw [z]
    go_enter Try.func18, Try.ntmps18
    go_wp2_with (go_at_call 35; refine (l01Money_any _ _).mono ?_; rintro e w1 ⟨rfl, rfl⟩)
    refine (told_any _ _).mono ?_
    rintro e w3 ⟨rfl, hb⟩
    obtain ⟨hc, hf⟩ := bcell hb; have hz := bZ hb
    go_wp2_with fail
    refine bodyPost_ret (v := M (toldV 0) (toldC 0)) (by simp [results, Try.results18, go_sem, hc]) rfl ⟨rfl, ?_⟩
    exact ((bT (bA0 _ _) hb).setCell (Nat.le_refl _) _).setCell (Nat.le_refl _) _
  · have hne : (a != 0) = true := by simp [hz]
    have hp : 0 < mag a := by unfold mag; omega
    have hm := mag_mul a b
    have hmod := Int.mul_ediv_add_emod 1000000000000 (mag a)
    have hmlt := Int.emod_lt_of_pos 1000000000000 hp
    have hmnn := Int.emod_nonneg 1000000000000 (Int.ne_of_gt hp)
    have hd0 : 0 ≤ 1000000000000 / mag a := Int.ediv_nonneg (by omega) a1
    have hd1 : 1000000000000 / mag a ≤ 1000000000000 := Int.ediv_le_self _ (by omega)
    by_cases hgt : 1000000000000 / mag a < mag b
    · have hbig : 1000000000000 < mag a * mag b := by
        have h3 : mag a * (1000000000000 / mag a + 1) ≤ mag a * mag b := Int.mul_le_mul_of_nonneg_left (by omega) a1
        rw [Int.mul_add] at h3
        omega
      have hf : isM (a * b) = false := by rw [isM_mag, ← mag_mul]; simp only [decide_eq_false_iff_not]; omega
      have e1 : toldV (a * b) = 0 := by simp [toldV, hf]
      have e2 : toldC (a * b) = 4 := by simp [toldC, hf]
      rw [e1, e2]; clear e1 e2 hf hm hmod hmlt hmnn hbig
      go_enter Try.func18, Try.ntmps18
      go_wp2_with (first | (go_at_call 35; refine (l01Money_any _ _).mono ?_; rintro e w1 ⟨rfl, rfl⟩) | (go_at_call 46; refine (abs_any _ (by assumption) _).mono ?_; rintro e w' ⟨rfl, rfl⟩))
      refine bodyPost_ret (v := M 0 4) (by simp [results, Try.results18, go_sem]) rfl ⟨rfl, ?_⟩
      exact bA0 _ _
    · have hsm : mag a * mag b ≤ 1000000000000 := by
        have h3 : mag a * mag b ≤ mag a * (1000000000000 / mag a) := Int.mul_le_mul_of_nonneg_left (by omega) a1
        omega
      have hab : -1000000000000 ≤ a * b ∧ a * b ≤ 1000000000000 := by
        rw [hm] at hsm; unfold mag at hsm; omega
      obtain ⟨p1, p2⟩ := hab
      clear hm hmod hmlt hmnn hsm
      go_enter Try.func18, Try.ntmps18
      go_wp2_with (first | (go_at_call 35; refine (l01Money_any _ _).mono ?_; rintro e w1 ⟨rfl, rfl⟩) | (go_at_call 46; refine (abs_any _ (by assumption) _).mono ?_; rintro e w' ⟨rfl, rfl⟩))
      refine (told_any _ _).mono ?_
      rintro e w3 ⟨rfl, hb⟩
      obtain ⟨hc, hf⟩ := bcell hb; have hz := bZ hb
      go_wp2_with fail
      refine bodyPost_ret (v := M (toldV (a * b)) (toldC (a * b))) (by simp [results, Try.results18, go_sem, hc]) rfl ⟨rfl, ?_⟩
      exact ((bT (bA0 _ _) hb).setCell (Nat.le_refl _) _).setCell (Nat.le_refl _) _

theorem smul_any (a b : Int) (w : World) :
    Calls Try.prog 18 #[.int .i64 a, .int .i64 b] w fun e w' => e = .returned (M (twoV a b (a * b)) (twoC a b (a * b))) ∧ Below w.heap.size w w' := by
  cases h : (isM a && isM b)
  · have e1 : twoV a b (a * b) = 0 := by simp [twoV, h]
    have e2 : twoC a b (a * b) = 1 := by simp [twoC, h]
    rw [e1, e2]
    exact smul_form a b h w
  · have h' : isM a = true ∧ isM b = true := by simpa using h
    have e1 : twoV a b (a * b) = toldV (a * b) := by simp [twoV, h]
    have e2 : twoC a b (a * b) = toldC (a * b) := by simp [twoC, h]
    rw [e1, e2]
    exact smul_in a b h'.1 h'.2 w

set_option maxHeartbeats 400000 in
theorem law8 (a b : Int) (w : World) :
    Calls Try.prog 8 #[.int .i64 a, .int .i64 b] w fun e w' => e = .returned (.bool true) ∧ Below w.heap.size w w' := by
  go_enter Try.func8, Try.ntmps8
  go_wp2_with fail
  refine (smul_any _ _ _).mono ?_
  rintro e w1 ⟨rfl, hb1⟩
  go_wp2_with fail
  refine (mul_any _ _ _).mono ?_
  rintro e w2 ⟨rfl, hb2⟩
  obtain ⟨hc, hf⟩ := bcell hb2; have hz := bZ hb2
  go_wp2_with fail
  refine (eqOut_same _ _ _).mono ?_
  rintro e w3 ⟨rfl, hb3⟩
  go_wp2_with fail
  go_ret
  exact ⟨rfl, bT (bA (bT (bA hb1 _) hb2) _) hb3⟩

end Go.Proofs.Ytcganhhnkidddaa
