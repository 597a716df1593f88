/-
  MulDiv OF THE MODEL: digit by digit.
-/
import Derived.Test.YtcganhhnkidddaaSb
import Derived.Laws.BitsLemmas
namespace Go.Proofs.Ytcganhhnkidddaa
open Go.RowKit
set_option linter.unusedVariables false

def mdOk (a b c : Int) : Bool := decide (0 ≤ a ∧ a ≤ 1000000000000 ∧ 0 ≤ b ∧ b ≤ 1000000000000 ∧ 1 ≤ c ∧ c ≤ 1000000000000)
def mdQ (a b c : Int) : Int × Int := if a * b / c ≤ 1000000000000 then (a * b / c, 0) else (0, 4)
def mdOf (a b c : Int) : Int × Int := if mdOk a b c then mdQ a b c else (0, 1)

theorem md_step {a c q r B t : Int} (hc : 1 ≤ c) (e : q * c + r = a * B) (ht : t = 0 ∨ t = 1) :
    (2 * q + t * (a / c) + (2 * r + t * (a % c)) / c) * c + (2 * r + t * (a % c)) % c = a * (2 * B + t) := by
  have h1 := Int.mul_ediv_add_emod (2 * r + t * (a % c)) c
  have h2 := Int.mul_ediv_add_emod a c
  rw [Int.add_mul, Int.mul_comm ((2 * r + t * (a % c)) / c) c, Int.add_mul]
  have h3 : 2 * q * c = 2 * (q * c) := by rw [Int.mul_assoc]
  have h4 : t * (a / c) * c = t * (c * (a / c)) := by rw [Int.mul_assoc, Int.mul_comm (a / c) c]
  have h5 : a * (2 * B + t) = 2 * (a * B) + a * t := by rw [Int.mul_add, ← Int.mul_assoc, Int.mul_comm a 2, Int.mul_assoc]
  rcases ht with rfl | rfl
  · simp only [Int.zero_mul, Int.mul_zero, Int.add_zero] at *
    omega
  · simp only [Int.one_mul, Int.mul_one] at *
    omega
theorem md_quot {a c q r B : Int} (hc : 1 ≤ c) (e : q * c + r = a * B) (r0 : 0 ≤ r) (r1 : r < c) : a * B / c = q := by
  rw [← e, Int.add_comm, Int.add_mul_ediv_right _ _ (by omega), Int.ediv_eq_zero_of_lt r0 r1]; omega
theorem md_mono {a b c B : Int} (ha : 0 ≤ a) (hc : 1 ≤ c) (h : B ≤ b) : a * B / c ≤ a * b / c :=
  Int.ediv_le_ediv (by omega) (Int.mul_le_mul_of_nonneg_left h ha)
theorem shr_half (b : Int) (m : Nat) : b / 2 ^ m = 2 * (b / 2 ^ (m + 1)) + (b / 2 ^ m) % 2 := by
  have : b / 2 ^ (m + 1) = b / 2 ^ m / 2 := by
    rw [Int.pow_succ, Int.ediv_ediv_of_nonneg (Int.le_of_lt (Int.pow_pos (by decide)))]
  rw [this]; omega
theorem bit_and (x : Int) (h0 : 0 ≤ x) (h1 : x ≤ 1000000000000) : bits .and .i64 x 1 = x % 2 := by
  have := bits_mask .i64 62 (by decide) (fun n a b => by
    have e : IntKind.i64.wrap n = if (true && decide (n % 18446744073709551616 ≥ 9223372036854775808)) = true then n % 18446744073709551616 - 18446744073709551616 else n % 18446744073709551616 := rfl
    rw [e]
    simp only [Bool.true_and, decide_eq_true_eq]
    split <;> omega) 1 (by decide) x h0 (by omega)
  simpa using this

set_option maxHeartbeats 1000000 in
theorem smd_in (a b c : Int) (w : World) (a0 : 0 ≤ a) (a1 : a ≤ 1000000000000) (b0 : 0 ≤ b) (b1 : b ≤ 1000000000000) (c0 : 1 ≤ c) (c1 : c ≤ 1000000000000) :
    Calls Try.prog 20 #[.int .i64 a, .int .i64 b, .int .i64 c] w fun e w' => e = .returned (M (mdQ a b c).1 (mdQ a b c).2) ∧ Below w.heap.size w w' := by
  have n1 : ¬ a < 0 := by omega
  have n2 : ¬ 1000000000000 < a := by omega
  have n3 : ¬ b < 0 := by omega
  have n4 : ¬ 1000000000000 < b := by omega
  have n5 : ¬ c < 1 := by omega
  have n6 : ¬ 1000000000000 < c := by omega
  have zc : (c == 0) = false := by simp; omega
  have cp : 0 < c := by omega
  have d0 : 0 ≤ a / c := Int.ediv_nonneg a0 (by omega)
  have d1 : a / c ≤ 1000000000000 := Int.le_trans (Int.ediv_le_self _ a0) a1
  have e0 : 0 ≤ a % c := Int.emod_nonneg _ (by omega)
  have e1 : a % c < c := Int.emod_lt_of_pos _ cp
  go_enter Try.func20, Try.ntmps20
  go_wp2
  go_loop [7, 8, 9] (fun qv rv i => ∃ (j : Nat) (q r : Int), j ≤ 41 ∧ i = .int .i64 ((j : Int) - 1) ∧ qv = .int .i64 q ∧ rv = .int .i64 r ∧ Hid (q * c + r = a * (b / 2 ^ j)) ∧ 0 ≤ r ∧ r < c ∧ 0 ≤ q ∧ q ≤ 1000000000000) (fun _ _ i => (RowKit.intOf i + 1).toNat)
  case atStart => exact ⟨41, 0, 0, by decide, rfl, rfl, rfl, (by show 0 * c + 0 = a * (b / 2 ^ 41); rw [show b / 2 ^ 41 = 0 by omega]; simp), by omega, by omega, by omega, by omega⟩
  case round =>
    obtain ⟨j, q, r, hj, rfl, rfl, rfl, H, r0, r1, q0, q1⟩ := hrel
    cases j with
    | zero =>
      have HQ : Hid (mdQ a b c = (q, 0)) := by
        have h0 := H.out
        rw [show b / 2 ^ 0 = b by simp] at h0
        have h1 := md_quot c0 h0 r0 r1
        show mdQ a b c = (q, 0)
        rw [mdQ, h1, if_pos q1]
      go_wp2
      refine bodyPost_ret (v := M q 0) (by simp [results, Try.results20, go_sem]) rfl ⟨by rw [HQ.out], ?_⟩
      exact bA0 _ _
    | succ m =>
      rw [show (((m + 1 : Nat) : Int) - 1) = (m : Int) by omega]
      have hm0 : (0 : Int) ≤ (m : Int) := by omega
      have hm1 : (m : Int) ≤ 40 := by omega
      have x0 : 0 ≤ b / 2 ^ m := Int.ediv_nonneg b0 (Int.le_of_lt (Int.pow_pos (by decide)))
      have hbt := bit_and (b / 2 ^ m) x0 (Int.le_trans (Int.ediv_le_self _ b0) b1)
      generalize hD : a / c = D at *
      generalize hE : a % c = E at *
      by_cases ht : b / 2 ^ m % 2 = 1
      · rw [ht] at hbt
        have HB : Hid (b / 2 ^ m = 2 * (b / 2 ^ (m + 1)) + 1) := by have := shr_half b m; rw [ht] at this; exact this
        have hst := md_step (t := 1) c0 H.out (by omega)
        rw [hD, hE] at hst
        rw [show (2 * q + 1 * D + (2 * r + 1 * E) / c) = 2 * q + D + (2 * r + E) / c by simp, show (2 * r + 1 * E) = 2 * r + E by simp] at hst
        have F0 : 0 ≤ (2 * r + E) / c := Int.ediv_nonneg (by omega) (by omega)
        have F1 : (2 * r + E) / c ≤ 3000000000000 := Int.le_trans (Int.ediv_le_self _ (by omega)) (by omega)
        have G0 : 0 ≤ (2 * r + E) % c := Int.emod_nonneg _ (by omega)
        have G1 : (2 * r + E) % c < c := Int.emod_lt_of_pos _ cp
        generalize hF : (2 * r + E) / c = F at *
        generalize hG : (2 * r + E) % c = G at *
        have HQ : Hid ((2 * q + D + F) * c + G = a * (b / 2 ^ m)) := by show (2 * q + D + F) * c + G = a * (b / 2 ^ m); rw [HB.out]; exact hst
        clear hst HB ht
        by_cases ho : 1000000000000 < 2 * q + D + F
        · have HO : Hid (mdQ a b c = (0, 4)) := by
            have h1 := md_quot c0 HQ.out G0 G1
            have h2 := md_mono (a := a) (b := b) (c := c) (B := b / 2 ^ m) a0 c0 (Int.ediv_le_self _ b0)
            show mdQ a b c = (0, 4)
            rw [mdQ, if_neg (by omega)]
          go_wp2
          refine bodyPost_ret (v := M 0 4) (by simp [results, Try.results20, go_sem]) rfl ⟨by rw [HO.out], ?_⟩
          exact bA0 _ _
        · go_wp2
          go_round
          case rel => exact ⟨m, 2 * q + D + F, G, by omega, rfl, rfl, by rw [hG], HQ, G0, G1, by omega, by omega⟩
          case measure => simp [RowKit.intOf]
      · have ht : b / 2 ^ m % 2 = 0 := by omega
        rw [ht] at hbt
        have HB : Hid (b / 2 ^ m = 2 * (b / 2 ^ (m + 1)) + 0) := by have := shr_half b m; rw [ht] at this; exact this
        have hst := md_step (t := 0) c0 H.out (by omega)
        rw [hD, hE] at hst
        rw [show (2 * q + 0 * D + (2 * r + 0 * E) / c) = 2 * q + (2 * r) / c by simp, show (2 * r + 0 * E) = 2 * r by simp] at hst
        have F0 : 0 ≤ (2 * r) / c := Int.ediv_nonneg (by omega) (by omega)
        have F1 : (2 * r) / c ≤ 3000000000000 := Int.le_trans (Int.ediv_le_self _ (by omega)) (by omega)
        have G0 : 0 ≤ (2 * r) % c := Int.emod_nonneg _ (by omega)
        have G1 : (2 * r) % c < c := Int.emod_lt_of_pos _ cp
        generalize hF : (2 * r) / c = F at *
        generalize hG : (2 * r) % c = G at *
        have HQ : Hid ((2 * q + F) * c + G = a * (b / 2 ^ m)) := by show (2 * q + F) * c + G = a * (b / 2 ^ m); rw [HB.out]; exact hst
        clear hst HB ht
        by_cases ho : 1000000000000 < 2 * q + F
        · have HO : Hid (mdQ a b c = (0, 4)) := by
            have h1 := md_quot c0 HQ.out G0 G1
            have h2 := md_mono (a := a) (b := b) (c := c) (B := b / 2 ^ m) a0 c0 (Int.ediv_le_self _ b0)
            show mdQ a b c = (0, 4)
            rw [mdQ, if_neg (by omega)]
          go_wp2
          refine bodyPost_ret (v := M 0 4) (by simp [results, Try.results20, go_sem]) rfl ⟨by rw [HO.out], ?_⟩
          exact bA0 _ _
        · go_wp2
          go_round
          case rel => exact ⟨m, 2 * q + F, G, by omega, rfl, rfl, by rw [hG], HQ, G0, G1, by omega, by omega⟩
          case measure => simp [RowKit.intOf]

set_option maxHeartbeats 1000000 in
theorem smd_form (a b c : Int) (w : World) (h : mdOk a b c = false) :
    Calls Try.prog 20 #[.int .i64 a, .int .i64 b, .int .i64 c] w fun e w' => e = .returned (M 0 1) ∧ Below w.heap.size w w' := by
  have h' : ¬ (0 ≤ a ∧ a ≤ 1000000000000 ∧ 0 ≤ b ∧ b ≤ 1000000000000 ∧ 1 ≤ c ∧ c ≤ 1000000000000) := by simpa [mdOk] using h
  clear h
  by_cases h1 : a < 0
  · clear h'
    go_enter Try.func20, Try.ntmps20
    go_wp2
    refine bodyPost_ret (v := M 0 1) (by simp [results, Try.results20, go_sem]) rfl ⟨rfl, bA0 _ _⟩
  · by_cases h2 : 1000000000000 < a
    · clear h'
      go_enter Try.func20, Try.ntmps20
      go_wp2
      refine bodyPost_ret (v := M 0 1) (by simp [results, Try.results20, go_sem]) rfl ⟨rfl, bA0 _ _⟩
    · by_cases h3 : b < 0
      · clear h'
        go_enter Try.func20, Try.ntmps20
        go_wp2
        refine bodyPost_ret (v := M 0 1) (by simp [results, Try.results20, go_sem]) rfl ⟨rfl, bA0 _ _⟩
      · by_cases h4 : 1000000000000 < b
        · clear h'
          go_enter Try.func20, Try.ntmps20
          go_wp2
          refine bodyPost_ret (v := M 0 1) (by simp [results, Try.results20, go_sem]) rfl ⟨rfl, bA0 _ _⟩
        · by_cases h5 : c < 1
          · clear h'
            go_enter Try.func20, Try.ntmps20
            go_wp2
            refine bodyPost_ret (v := M 0 1) (by simp [results, Try.results20, go_sem]) rfl ⟨rfl, bA0 _ _⟩
          · have h6 : 1000000000000 < c := by omega
            clear h'
            go_enter Try.func20, Try.ntmps20
            go_wp2
            refine bodyPost_ret (v := M 0 1) (by simp [results, Try.results20, go_sem]) rfl ⟨rfl, bA0 _ _⟩

theorem smd_any (a b c : Int) (w : World) :
    Calls Try.prog 20 #[.int .i64 a, .int .i64 b, .int .i64 c] w fun e w' => e = .returned (M (mdOf a b c).1 (mdOf a b c).2) ∧ Below w.heap.size w w' := by
  cases h : mdOk a b c
  · rw [show mdOf a b c = (0, 1) by simp [mdOf, h]]; exact smd_form a b c w h
  · rw [show mdOf a b c = mdQ a b c by simp [mdOf, h]]
    have h' : 0 ≤ a ∧ a ≤ 1000000000000 ∧ 0 ≤ b ∧ b ≤ 1000000000000 ∧ 1 ≤ c ∧ c ≤ 1000000000000 := by simpa [mdOk] using h
    exact smd_in a b c w h'.1 h'.2.1 h'.2.2.1 h'.2.2.2.1 h'.2.2.2.2.1 h'.2.2.2.2.2

end Go.Proofs.Ytcganhhnkidddaa
