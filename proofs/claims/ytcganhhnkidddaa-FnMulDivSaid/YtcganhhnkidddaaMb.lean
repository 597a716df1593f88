/-
  SUMS AND DIFFERENCES: both sides come to the same pair of numbers.
-/
import Derived.Test.YtcganhhnkidddaaMa
namespace Go.Proofs.Ytcganhhnkidddaa
open Go.RowKit

def toldV (v : Int) : Int := if isM v then v else 0
def toldC (v : Int) : Int := if isM v then 0 else 4
abbrev M (v c : Int) : Value := .agg #[.int .i64 v, .int .i64 c]
def twoV (a b v : Int) : Int := if isM a && isM b then toldV v else 0
def twoC (a b v : Int) : Int := if isM a && isM b then toldC v else 1

set_option maxHeartbeats 400000 in
theorem orOver_any (v : Int) (w : World) :
    Calls Try.prog 38 #[.int .i64 v] w fun e w' => e = .returned (M (toldV v) (toldC v)) ∧ Below w.heap.size w w' := by
  cases h : isM v
  · have e1 : toldV v = 0 := by simp [toldV, h]
    have e2 : toldC v = 4 := by simp [toldC, h]
    rw [e1, e2]; clear e1 e2
    go_enter Try.func38, Try.ntmps38
    go_wp2_with (go_at_call 37; refine (inBound0_any _ _).mono ?_; rintro e w1 ⟨rfl, hb⟩; obtain ⟨hc, hf⟩ := bcell hb; have hz := hb.size; simp at hz)
    refine bodyPost_ret (v := M 0 4) (by simp [results, Try.results38, go_sem, hc, M]) rfl ⟨rfl, ?_⟩
    exact ((bT (bA0 _ _) hb).setCell (Nat.le_refl _) _).setCell (Nat.le_refl _) _
  · have e1 : toldV v = v := by simp [toldV, h]
    have e2 : toldC v = 0 := by simp [toldC, h]
    rw [e1, e2]; clear e1 e2
    go_enter Try.func38, Try.ntmps38
    go_wp2_with (go_at_call 37; refine (inBound0_any _ _).mono ?_; rintro e w1 ⟨rfl, hb⟩; obtain ⟨hc, hf⟩ := bcell hb; have hz := hb.size; simp at hz)
    refine bodyPost_ret (v := M v 0) (by simp [results, Try.results38, go_sem, hc, M]) rfl ⟨rfl, ?_⟩
    exact ((bT (bA0 _ _) hb).setCell (Nat.le_refl _) _).setCell (Nat.le_refl _) _

set_option maxHeartbeats 400000 in
theorem told_any (v : Int) (w : World) :
    Calls Try.prog 36 #[.int .i64 v] w fun e w' => e = .returned (M (toldV v) (toldC v)) ∧ Below w.heap.size w w' := by
  cases h : isM v
  · have e1 : toldV v = 0 := by simp [toldV, h]
    have e2 : toldC v = 4 := by simp [toldC, h]
    rw [e1, e2]; clear e1 e2
    go_enter Try.func36, Try.ntmps36
    go_wp2_with (go_at_call 35; refine (l01Money_any _ _).mono ?_; rintro e w1 ⟨rfl, rfl⟩)
    refine bodyPost_ret (v := M 0 4) (by simp [results, Try.results36, go_sem, M]) rfl ⟨rfl, ?_⟩
    exact bA0 _ _
  · have e1 : toldV v = v := by simp [toldV, h]
    have e2 : toldC v = 0 := by simp [toldC, h]
    rw [e1, e2]; clear e1 e2
    go_enter Try.func36, Try.ntmps36
    go_wp2_with (go_at_call 35; refine (l01Money_any _ _).mono ?_; rintro e w1 ⟨rfl, rfl⟩)
    refine bodyPost_ret (v := M v 0) (by simp [results, Try.results36, go_sem, M]) rfl ⟨rfl, ?_⟩
    exact bA0 _ _

set_option maxHeartbeats 400000 in
theorem add_any (a b : Int) (w : World) :
    Calls Try.prog 14 #[.int .i64 a, .int .i64 b] w fun e w' => e = .returned (M (twoV a b (a + b)) (twoC a b (a + b))) ∧ Below w.heap.size w w' := by
  cases h1 : isM a
  · have e1 : twoV a b (a + b) = 0 := by simp [twoV, h1]
    have e2 : twoC a b (a + b) = 1 := by simp [twoC, h1]
    rw [e1, e2]; clear e1 e2
    go_enter Try.func14, Try.ntmps14
    go_wp2_with (go_at_call 37; refine (inBound0_any _ _).mono ?_; rintro e w1 ⟨rfl, hb⟩; obtain ⟨hc, hf⟩ := bcell hb; have hz := hb.size; simp at hz)
    refine bodyPost_ret (v := M 0 1) (by simp [results, Try.results14, go_sem, hc, M]) rfl ⟨rfl, ?_⟩
    exact ((bT (bA0 _ _) hb).setCell (Nat.le_refl _) _).setCell (Nat.le_refl _) _
  · cases h2 : isM b
    · have e1 : twoV a b (a + b) = 0 := by simp [twoV, h1, h2]
      have e2 : twoC a b (a + b) = 1 := by simp [twoC, h1, h2]
      rw [e1, e2]; clear e1 e2
      go_enter Try.func14, Try.ntmps14
      go_wp2_with fail
      refine (inBound0_any _ _).mono ?_
      rintro e w1 ⟨rfl, hb⟩
      go_wp2_with fail
      refine (inBound0_any _ _).mono ?_
      rintro e w2 ⟨rfl, hb2⟩
      have hb3 := bT hb hb2
      obtain ⟨hc, hf⟩ := bcell hb3; have hz := hb3.size; simp at hz; clear hb hb2
      go_wp2_with fail
      refine bodyPost_ret (v := M 0 1) (by simp [results, Try.results14, go_sem, hc, M]) rfl ⟨rfl, ?_⟩
      exact ((bT (bA0 _ _) hb3).setCell (Nat.le_refl _) _).setCell (Nat.le_refl _) _
    · have e1 : twoV a b (a + b) = toldV (a + b) := by simp [twoV, h1, h2]
      have e2 : twoC a b (a + b) = toldC (a + b) := by simp [twoC, h1, h2]
      rw [e1, e2]; clear e1 e2
      obtain ⟨a1, a2⟩ := isM_t h1
      obtain ⟨b1, b2⟩ := isM_t h2
      go_enter Try.func14, Try.ntmps14
      go_wp2_with fail
      refine (inBound0_any _ _).mono ?_
      rintro e w1 ⟨rfl, hb⟩
      go_wp2_with fail
      refine (inBound0_any _ _).mono ?_
      rintro e w2 ⟨rfl, hb2⟩
      have hb3 := bT hb hb2; clear hb hb2
      go_wp2_with fail
      refine (orOver_any _ _).mono ?_
      rintro e w3 ⟨rfl, hb4⟩
      have hb5 := bT hb3 hb4
      obtain ⟨hc, hf⟩ := bcell hb5; have hz := hb5.size; simp at hz; clear hb3 hb4
      go_wp2_with fail
      refine bodyPost_ret (v := M (toldV (a + b)) (toldC (a + b))) (by simp [results, Try.results14, go_sem, hc, M]) rfl ⟨rfl, ?_⟩
      exact ((bT (bA0 _ _) hb5).setCell (Nat.le_refl _) _).setCell (Nat.le_refl _) _

set_option maxHeartbeats 400000 in
theorem sub_any (a b : Int) (w : World) :
    Calls Try.prog 15 #[.int .i64 a, .int .i64 b] w fun e w' => e = .returned (M (twoV a b (a - b)) (twoC a b (a - b))) ∧ Below w.heap.size w w' := by
  cases h1 : isM a
  · have e1 : twoV a b (a - b) = 0 := by simp [twoV, h1]
    have e2 : twoC a b (a - b) = 1 := by simp [twoC, h1]
    rw [e1, e2]; clear e1 e2
    go_enter Try.func15, Try.ntmps15
    go_wp2_with (go_at_call 37; refine (inBound0_any _ _).mono ?_; rintro e w1 ⟨rfl, hb⟩; obtain ⟨hc, hf⟩ := bcell hb; have hz := hb.size; simp at hz)
    refine bodyPost_ret (v := M 0 1) (by simp [results, Try.results15, go_sem, hc, M]) rfl ⟨rfl, ?_⟩
    exact ((bT (bA0 _ _) hb).setCell (Nat.le_refl _) _).setCell (Nat.le_refl _) _
  · cases h2 : isM b
    · have e1 : twoV a b (a - b) = 0 := by simp [twoV, h1, h2]
      have e2 : twoC a b (a - b) = 1 := by simp [twoC, h1, h2]
      rw [e1, e2]; clear e1 e2
      go_enter Try.func15, Try.ntmps15
      go_wp2_with fail
      refine (inBound0_any _ _).mono ?_
      rintro e w1 ⟨rfl, hb⟩
      go_wp2_with fail
      refine (inBound0_any _ _).mono ?_
      rintro e w2 ⟨rfl, hb2⟩
      have hb3 := bT hb hb2
      obtain ⟨hc, hf⟩ := bcell hb3; have hz := hb3.size; simp at hz; clear hb hb2
      go_wp2_with fail
      refine bodyPost_ret (v := M 0 1) (by simp [results, Try.results15, go_sem, hc, M]) rfl ⟨rfl, ?_⟩
      exact ((bT (bA0 _ _) hb3).setCell (Nat.le_refl _) _).setCell (Nat.le_refl _) _
    · have e1 : twoV a b (a - b) = toldV (a - b) := by simp [twoV, h1, h2]
      have e2 : twoC a b (a - b) = toldC (a - b) := by simp [twoC, h1, h2]
      rw [e1, e2]; clear e1 e2
      obtain ⟨a1, a2⟩ := isM_t h1
      obtain ⟨b1, b2⟩ := isM_t h2
      go_enter Try.func15, Try.ntmps15
      go_wp2_with fail
      refine (inBound0_any _ _).mono ?_
      rintro e w1 ⟨rfl, hb⟩
      go_wp2_with fail
      refine (inBound0_any _ _).mono ?_
      rintro e w2 ⟨rfl, hb2⟩
      have hb3 := bT hb hb2; clear hb hb2
      go_wp2_with fail
      refine (orOver_any _ _).mono ?_
      rintro e w3 ⟨rfl, hb4⟩
      have hb5 := bT hb3 hb4
      obtain ⟨hc, hf⟩ := bcell hb5; have hz := hb5.size; simp at hz; clear hb3 hb4
      go_wp2_with fail
      refine bodyPost_ret (v := M (toldV (a - b)) (toldC (a - b))) (by simp [results, Try.results15, go_sem, hc, M]) rfl ⟨rfl, ?_⟩
      exact ((bT (bA0 _ _) hb5).setCell (Nat.le_refl _) _).setCell (Nat.le_refl _) _

set_option maxHeartbeats 400000 in
theorem sadd_any (a b : Int) (w : World) :
    Calls Try.prog 13 #[.int .i64 a, .int .i64 b] w fun e w' => e = .returned (M (twoV a b (a + b)) (twoC a b (a + b))) ∧ Below w.heap.size w w' := by
  cases h1 : isM a
  · have e1 : twoV a b (a + b) = 0 := by simp [twoV, h1]
    have e2 : twoC a b (a + b) = 1 := by simp [twoC, h1]
    rw [e1, e2]; clear e1 e2
    go_enter Try.func13, Try.ntmps13
    go_wp2_with (go_at_call 35; refine (l01Money_any _ _).mono ?_; rintro e w1 ⟨rfl, rfl⟩)
    refine bodyPost_ret (v := M 0 1) (by simp [results, Try.results13, go_sem, M]) rfl ⟨rfl, ?_⟩
    exact bA0 _ _
  · cases h2 : isM b
    · have e1 : twoV a b (a + b) = 0 := by simp [twoV, h1, h2]
      have e2 : twoC a b (a + b) = 1 := by simp [twoC, h1, h2]
      rw [e1, e2]; clear e1 e2
      go_enter Try.func13, Try.ntmps13
      go_wp2_with (go_at_call 35; refine (l01Money_any _ _).mono ?_; rintro e w1 ⟨rfl, rfl⟩)
      refine bodyPost_ret (v := M 0 1) (by simp [results, Try.results13, go_sem, M]) rfl ⟨rfl, ?_⟩
      exact bA0 _ _
    · have e1 : twoV a b (a + b) = toldV (a + b) := by simp [twoV, h1, h2]
      have e2 : twoC a b (a + b) = toldC (a + b) := by simp [twoC, h1, h2]
      rw [e1, e2]; clear e1 e2
      obtain ⟨a1, a2⟩ := isM_t h1
      obtain ⟨b1, b2⟩ := isM_t h2
      go_enter Try.func13, Try.ntmps13
      go_wp2_with (go_at_call 35; refine (l01Money_any _ _).mono ?_; rintro e w1 ⟨rfl, rfl⟩)
      refine (told_any _ _).mono ?_
      rintro e w3 ⟨rfl, hb⟩
      obtain ⟨hc, hf⟩ := bcell hb; have hz := hb.size; simp at hz
      go_wp2_with fail
      refine bodyPost_ret (v := M (toldV (a + b)) (toldC (a + b))) (by simp [results, Try.results13, go_sem, hc, M]) rfl ⟨rfl, ?_⟩
      exact ((bT (bA0 _ _) hb).setCell (Nat.le_refl _) _).setCell (Nat.le_refl _) _

set_option maxHeartbeats 400000 in
theorem ssub_any (a b : Int) (w : World) :
    Calls Try.prog 28 #[.int .i64 a, .int .i64 b] w fun e w' => e = .returned (M (twoV a b (a - b)) (twoC a b (a - b))) ∧ Below w.heap.size w w' := by
  cases h1 : isM a
  · have e1 : twoV a b (a - b) = 0 := by simp [twoV, h1]
    have e2 : twoC a b (a - b) = 1 := by simp [twoC, h1]
    rw [e1, e2]; clear e1 e2
    go_enter Try.func28, Try.ntmps28
    go_wp2_with (go_at_call 35; refine (l01Money_any _ _).mono ?_; rintro e w1 ⟨rfl, rfl⟩)
    refine bodyPost_ret (v := M 0 1) (by simp [results, Try.results28, go_sem, M]) rfl ⟨rfl, ?_⟩
    exact bA0 _ _
  · cases h2 : isM b
    · have e1 : twoV a b (a - b) = 0 := by simp [twoV, h1, h2]
      have e2 : twoC a b (a - b) = 1 := by simp [twoC, h1, h2]
      rw [e1, e2]; clear e1 e2
      go_enter Try.func28, Try.ntmps28
      go_wp2_with (go_at_call 35; refine (l01Money_any _ _).mono ?_; rintro e w1 ⟨rfl, rfl⟩)
      refine bodyPost_ret (v := M 0 1) (by simp [results, Try.results28, go_sem, M]) rfl ⟨rfl, ?_⟩
      exact bA0 _ _
    · have e1 : twoV a b (a - b) = toldV (a - b) := by simp [twoV, h1, h2]
      have e2 : twoC a b (a - b) = toldC (a - b) := by simp [twoC, h1, h2]
      rw [e1, e2]; clear e1 e2
      obtain ⟨a1, a2⟩ := isM_t h1
      obtain ⟨b1, b2⟩ := isM_t h2
      go_enter Try.func28, Try.ntmps28
      go_wp2_with (go_at_call 35; refine (l01Money_any _ _).mono ?_; rintro e w1 ⟨rfl, rfl⟩)
      refine (told_any _ _).mono ?_
      rintro e w3 ⟨rfl, hb⟩
      obtain ⟨hc, hf⟩ := bcell hb; have hz := hb.size; simp at hz
      go_wp2_with fail
      refine bodyPost_ret (v := M (toldV (a - b)) (toldC (a - b))) (by simp [results, Try.results28, go_sem, hc, M]) rfl ⟨rfl, ?_⟩
      exact ((bT (bA0 _ _) hb).setCell (Nat.le_refl _) _).setCell (Nat.le_refl _) _

set_option maxHeartbeats 400000 in
theorem eqOut_same (v c : Int) (w : World) :
    Calls Try.prog 27 #[M v c, M v c] w fun e w' => e = .returned (.bool true) ∧ Below w.heap.size w w' := by
  unfold M
  go_enter Try.func27, Try.ntmps27
  go_wp2
  go_ret
  exact ⟨rfl, bA (bA0 _ _) _⟩

end Go.Proofs.Ytcganhhnkidddaa
