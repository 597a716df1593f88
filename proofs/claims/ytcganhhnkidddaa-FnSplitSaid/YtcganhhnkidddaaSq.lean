/-
  THE LAW FnExactMoneySplit: marks, and its walk.
-/
import Derived.Test.YtcganhhnkidddaaSp
import Derived.Test.YtcganhhnkidddaaDa
namespace Go.Proofs.Ytcganhhnkidddaa
open Go.RowKit
set_option linter.unusedVariables false

def marks (n : Nat) : List Int := (List.range n).map (fun i : Nat => (1 : Int) + (i : Int))
theorem marks_len (n : Nat) : (marks n).length = n := by simp [marks]
theorem marks_get (n k : Nat) (h : k < n) : (marks n).getD k 0 = 1 + k := by simp [marks, h]

theorem IntsAt.only {w w' : World} {b c o : Nat} {zs : List Int} (h : IntsAt w c o zs) (hb : Only b w w') (hne : c ≠ b) : IntsAt w' c o zs :=
  ⟨Nat.lt_of_lt_of_le h.1 hb.size, fun i hi => (hb.cell h.1 hne).trans (h.2 i hi)⟩

/-- The first k cells of a row hold the marks. -/
def Marked (w : World) (b n k : Nat) : Prop := ∃ vs : Array Value, RowAt w b vs ∧ vs.size = n ∧ ∀ j, j < k → vs[j]? = some (.int .i64 (1 + (j : Int)))
theorem Marked.step {w : World} {b n k : Nat} (h : Marked w b n k) (hk : k < n) : Marked (w.setCell ⟨b, k, none⟩ (.int .i64 (1 + (k : Int)))) b n (k + 1) := by
  obtain ⟨vs, h1, h2, h3⟩ := h
  refine ⟨_, h1.set k _, by simp [h2], fun j hj => ?_⟩
  rw [Array.getElem?_setIfInBounds]
  by_cases e : k = j
  · subst e; simp [h2, hk]
  · rw [if_neg e]; exact h3 j (by omega)
theorem Marked.cell {w : World} {b n k : Nat} (h : Marked w b n k) (j : Nat) (hj : j < n) : (∃ v, w.cell? ⟨b, j, none⟩ = some v) ∧ w.frozen? ⟨b, j, none⟩ = false := by
  obtain ⟨vs, h1, h2, h3⟩ := h
  exact ⟨⟨vs[j]'(by omega), by rw [h1.cell j]; exact Array.getElem?_eq_getElem (by omega)⟩, h1.frozen j⟩
theorem Marked.ints {w : World} {b n : Nat} (h : Marked w b n n) : IntsAt w b 0 (marks n) := by
  obtain ⟨vs, h1, h2, h3⟩ := h
  refine ⟨h1.lt, fun i hi => ?_⟩
  rw [marks_len] at hi
  rw [marks_get n i hi, Nat.zero_add, h1.cell i]
  exact h3 i hi

set_option maxHeartbeats 400000 in
theorem mark_nil (sl : Option Addr) (cap : Nat) (w : World) :
    Calls Try.prog 32 #[.slice sl 0 cap, .int .i64 1] w fun e w' => e = .returned (.int .i64 1) ∧ w' = w := by
  go_enter Try.func32, Try.ntmps32
  go_wp2
  refine wp_loop_rounds 1 ?_
  rw [rounds_succ]
  go_wp2
  go_ret
  exact ⟨rfl, rfl⟩

set_option maxHeartbeats 400000 in
theorem held_nil (sl : Option Addr) (cap : Nat) (w : World) :
    Calls Try.prog 33 #[.slice sl 0 cap, .int .i64 1] w fun e w' => e = .returned (.int .i64 1) ∧ w' = w := by
  go_enter Try.func33, Try.ntmps33
  go_wp2
  refine wp_loop_rounds 1 ?_
  rw [rounds_succ]
  go_wp2
  go_ret
  exact ⟨rfl, rfl⟩

set_option maxHeartbeats 400000 in
theorem mark_any (b n cap : Nat) (hn : n ≤ 1048576) (w : World) (h : Marked w b n 0) :
    Calls Try.prog 32 #[.slice (some ⟨b, 0, none⟩) n cap, .int .i64 1] w fun e w' => e = .returned (.int .i64 (1 + (n : Int))) ∧ IntsAt w' b 0 (marks n) ∧ Only b w w' := by
  have HM : Hid (Marked w b n 0) := h
  clear h
  go_enter Try.func32, Try.ntmps32
  go_wp2
  go_loopw [1, 5] (fun m i wr => ∃ k : Nat, i = .int .i64 k ∧ m = .int .i64 (1 + (k : Int)) ∧ k ≤ n ∧ Hid (Marked wr b n k) ∧ Hid (Only b w wr)) (fun _ i _ => n - (intOf i).toNat)
  case atStart => exact ⟨0, rfl, rfl, Nat.zero_le _, HM, Only.refl _ _⟩
  case round =>
    obtain ⟨k, rfl, rfl, hk, H1, H2⟩ := hrel
    have hk0 : (0 : Int) ≤ (k : Int) := by omega
    by_cases h1 : k < n
    · have h1' : (k : Int) < (n : Int) := by omega
      obtain ⟨⟨v, hc⟩, hf⟩ := H1.out.cell k h1
      have H3 : Hid (Marked (wr.setCell ⟨b, k, none⟩ (.int .i64 (1 + (k : Int)))) b n (k + 1)) := H1.out.step h1
      go_wp2
      go_roundw
      case rel => exact ⟨k + 1, by go_num, by go_num, by omega, H3, H2.out.setCell _ _⟩
      case measure => simp [intOf]; omega
    · have h1' : ¬ (k : Int) < (n : Int) := by omega
      have hkn : k = n := by omega
      have H4 : Hid (IntsAt wr b 0 (marks n) ∧ (1 + (k : Int)) = 1 + (n : Int)) := by subst hkn; exact ⟨H1.out.ints, rfl⟩
      clear hkn
      go_wp2
      go_ret
      exact ⟨by rw [← H4.out.2]; rfl, H4.out.1, H2.out⟩

set_option maxHeartbeats 400000 in
theorem held_any (b n cap : Nat) (hn : n ≤ 1048576) (w : World) (h : IntsAt w b 0 (marks n)) :
    Calls Try.prog 33 #[.slice (some ⟨b, 0, none⟩) n cap, .int .i64 1] w fun e w' => e = .returned (.int .i64 (1 + (n : Int))) ∧ w' = w := by
  have HM : Hid (IntsAt w b 0 (marks n)) := h
  clear h
  go_enter Try.func33, Try.ntmps33
  go_wp2
  go_loop [1, 5] (fun m i => ∃ k : Nat, i = .int .i64 k ∧ m = .int .i64 (1 + (k : Int)) ∧ k ≤ n) (fun _ i => n - (intOf i).toNat)
  case atStart => exact ⟨0, rfl, rfl, Nat.zero_le _⟩
  case round =>
    obtain ⟨k, rfl, rfl, hk⟩ := hrel
    have hk0 : (0 : Int) ≤ (k : Int) := by omega
    by_cases h1 : k < n
    · have h1' : (k : Int) < (n : Int) := by omega
      have hc : w.cell? ⟨b, k, none⟩ = some (.int .i64 (1 + (k : Int))) := by
        have := HM.out.2 k (by rw [marks_len]; exact h1)
        rwa [marks_get n k h1, Nat.zero_add] at this
      go_wp2
      go_round
      case rel => exact ⟨k + 1, by go_num, by go_num, by omega⟩
      case measure => simp [intOf]; omega
    · have h1' : ¬ (k : Int) < (n : Int) := by omega
      have H4 : Hid ((1 + (k : Int)) = 1 + (n : Int)) := by show (1 + (k : Int)) = 1 + (n : Int); omega
      go_wp2
      go_ret
      exact ⟨by rw [← H4.out]; rfl, rfl⟩

set_option maxHeartbeats 1000000 in
theorem law11_yes (v : Int) (n : Nat) (v0 : 0 ≤ v) (v1 : v ≤ 1000000000000) (n0 : 1 ≤ n) (n1 : n ≤ 100) (w : World) :
    Calls Try.prog 11 #[.int .i64 v, .int .i64 n] w fun e w' => e = .returned (.bool true) ∧ Below w.heap.size w w' := by
  have SS : Hid (∀ w, Calls Try.prog 24 #[.int .i64 v, .int .i64 n] w fun e w' => ∃ b cap, e = .returned (.slice (some ⟨b, 0, none⟩) n cap) ∧ IntsAt w' b 0 (splitL v n) ∧ Below w.heap.size w w') := fun w => ssplit_yes v n v0 v1 n0 n1 w
  have IS : Hid (∀ w, Calls Try.prog 23 #[.int .i64 v, .int .i64 n] w fun e w' => ∃ b, e = .returned (.slice (some ⟨b, 0, none⟩) n n) ∧ w.heap.size ≤ b ∧ RowAt w' b (vsOf (splitL v n) n) ∧ Below w.heap.size w w') := fun w => isplit_yes v n v0 v1 n0 n1 w
  have EQ : Hid (∀ w c cap c2 cap2, IntsAt w c 0 (splitL v n) → IntsAt w c2 0 (splitL v n) → Calls Try.prog 31 #[.slice (some ⟨c, 0, none⟩) n cap, .slice (some ⟨c2, 0, none⟩) n cap2] w fun e w' => e = .returned (.bool true) ∧ Below w.heap.size w w') := by
    intro w c cap c2 cap2 h1 h2
    have := eq_some c 0 cap c2 0 cap2 (splitL v n) w (by rw [split_len]; unfold maxLen; omega) h1 h2
    rw [split_len] at this
    exact this
  have LEN : Hid ((splitL v n).length = n) := split_len v n
  generalize splitL v n = zs at *
  have m0 : ¬ (1 + (n : Int)) < 0 := by omega
  go_enter Try.func11, Try.ntmps11
  go_wp2_with fail
  refine (SS.out _).mono ?_
  rintro e w1 ⟨g, cap, rfl, i1, b1⟩
  go_wp2_with fail
  refine (IS.out _).mono ?_
  rintro e w2 ⟨b, rfl, hb, r2, b2⟩
  have G2 : Hid (IntsAt w2 g 0 zs) := i1.below b2
  have R2 : Hid (RowAt w2 b (vsOf zs n)) := r2
  have NE : Hid (g ≠ b ∧ w.heap.size ≤ b) := ⟨by have := i1.1; omega, Nat.le_trans b1.size hb⟩
  have B2 : Hid (Below w.heap.size w w2) := bT b1 b2
  clear i1 r2 b1 b2 hb
  go_wp2_with fail
  refine (EQ.out _ _ _ _ _ (R2.out.ints (by rw [LEN.out]; exact Nat.le_refl _)) G2.out).mono ?_
  rintro e w3 ⟨rfl, b3⟩
  have G3 : Hid (IntsAt w3 g 0 zs) := G2.out.below b3
  have R3 : Hid (Marked w3 b n 0) := ⟨vsOf zs n, (b3.block b R2.out.lt).trans R2.out, by rw [vs_size _ _ (by rw [LEN.out]; exact Nat.le_refl _), LEN.out], fun j hj => absurd hj (Nat.not_lt_zero _)⟩
  have B3 : Hid (Below w.heap.size w w3) := bT B2.out b3
  clear b3 G2 R2 B2
  go_wp2_with fail
  refine (mark_any b n _ (by omega) _ R3.out).mono ?_
  rintro e w4 ⟨rfl, i4, o4⟩
  have G4 : Hid (IntsAt w4 g 0 zs) := G3.out.only o4 NE.out.1
  have M4 : Hid (IntsAt w4 b 0 (marks n)) := i4
  have B4 : Hid (Below w.heap.size w w4) := o4.below B3.out NE.out.2
  clear i4 o4 G3 R3 B3
  go_wp2_with fail
  refine (held_any b n _ (by omega) _ M4.out).mono ?_
  rintro e w5 ⟨rfl, rfl⟩
  go_wp2_with fail
  refine (IS.out _).mono ?_
  rintro e w6 ⟨b6, rfl, hb6, r6, bb6⟩
  have G6 : Hid (IntsAt w6 g 0 zs) := G4.out.below bb6
  have M6 : Hid (IntsAt w6 b 0 (marks n)) := M4.out.below bb6
  have B6 : Hid (Below w.heap.size w w6) := bT B4.out bb6
  have R6 : Hid (IntsAt w6 b6 0 zs) := r6.ints (by rw [LEN.out]; exact Nat.le_refl _)
  clear bb6 r6 hb6 G4 M4 B4
  go_wp2_with fail
  refine (EQ.out _ _ _ _ _ R6.out G6.out).mono ?_
  rintro e w7 ⟨rfl, b7⟩
  have M7 : Hid (IntsAt w7 b 0 (marks n)) := M6.out.below b7
  have B7 : Hid (Below w.heap.size w w7) := bT B6.out b7
  clear b7
  go_wp2_with fail
  refine (held_any b n _ (by omega) _ M7.out).mono ?_
  rintro e w8 ⟨rfl, rfl⟩
  go_wp2
  go_ret
  exact ⟨rfl, B7.out⟩

set_option maxHeartbeats 400000 in
theorem law11_no (v n : Int) (h : (isN v && isP n) = false) (w : World) :
    Calls Try.prog 11 #[.int .i64 v, .int .i64 n] w fun e w' => e = .returned (.bool true) ∧ Below w.heap.size w w' := by
  have H : Hid ((isN v && isP n) = false) := h
  clear h
  go_enter Try.func11, Try.ntmps11
  go_wp2_with fail
  refine (ssplit_no v n H.out _).mono ?_
  rintro e w1 ⟨a, c, rfl, b1⟩
  go_wp2_with fail
  refine (isplit_no v n H.out _).mono ?_
  rintro e w2 ⟨rfl, b2⟩
  go_wp2_with fail
  refine (eq_nil _ _ _ _ _).mono ?_
  rintro e w3 ⟨rfl, b3⟩
  go_wp2_with fail
  refine (mark_nil _ _ _).mono ?_
  rintro e w4 ⟨rfl, rfl⟩
  go_wp2_with fail
  refine (held_nil _ _ _).mono ?_
  rintro e w5 ⟨rfl, rfl⟩
  go_wp2_with fail
  refine (isplit_no v n H.out _).mono ?_
  rintro e w6 ⟨rfl, b6⟩
  go_wp2_with fail
  refine (eq_nil _ _ _ _ _).mono ?_
  rintro e w7 ⟨rfl, b7⟩
  go_wp2_with fail
  refine (held_nil _ _ _).mono ?_
  rintro e w8 ⟨rfl, rfl⟩
  go_wp2
  go_ret
  exact ⟨rfl, bT (bT (bT (bT b1 b2) b3) b6) b7⟩

theorem law11 (v n : Int) (w : World) :
    Calls Try.prog 11 #[.int .i64 v, .int .i64 n] w fun e w' => e = .returned (.bool true) ∧ Below w.heap.size w w' := by
  cases h : (isN v && isP n)
  · exact law11_no v n h w
  · have h1 : isN v = true ∧ isP n = true := by simpa using h
    have h2 : 0 ≤ v ∧ v ≤ 1000000000000 := by simpa [isN] using h1.1
    have h3 : 1 ≤ n ∧ n ≤ 100 := by simpa [isP] using h1.2
    obtain ⟨m, rfl⟩ := Int.eq_ofNat_of_zero_le (show 0 ≤ n by omega)
    exact law11_yes v m h2.1 h2.2 (by omega) (by omega) w

end Go.Proofs.Ytcganhhnkidddaa
