/-
  A NUMBER AHEAD, AS THE PROGRAM READS IT.
-/
import Derived.Test.YtnkdkbchendpmaaDoorRa
import Derived.Deep.RegionHeld3
namespace Go.Proofs.YtnkdkbchendpmaaDoor
open Go.RowKit
set_option linter.unusedVariables false

/-- What numberAhead answers. -/
def ahV (l : List UInt8) : Int := match rdN 9 l with | none => 0 | some (v, _) => v
def ahW (l : List UInt8) : Int := match rdN 9 l with | none => 0 | some (v, _) => (numB v).length

theorem wrS (x : Int) (h0 : -9223372036854775808 ≤ x) (h1 : x < 9223372036854775808) : wrap64 x = x := by unfold wrap64; omega
theorem pow_sh (j : Nat) : (2 : Int) ^ (7 * j) = ((128 ^ j : Nat) : Int) := by
  rw [Int.pow_mul]
  simp
theorem sh_add (a b j : Nat) (hj : j ≤ 8) (ha : a < 128 ^ j) : wrap64 ((a : Int) + wrap64 ((b : Int) % 128 * 2 ^ (7 * j))) = ((a + 128 ^ j * (b % 128) : Nat) : Int) ∧ a + 128 ^ j * (b % 128) < 128 ^ (j + 1) := by
  have hp : 128 ^ j ≤ 128 ^ 8 := Nat.pow_le_pow_right (by decide) hj
  have hm : b % 128 ≤ 127 := by omega
  have hq : 128 ^ j * (b % 128) ≤ 128 ^ j * 127 := Nat.mul_le_mul_left _ hm
  rw [pow_sh, show (b : Int) % 128 * ((128 ^ j : Nat) : Int) = ((128 ^ j * (b % 128) : Nat) : Int) by push_cast; rw [Int.mul_comm]]
  generalize 128 ^ j * (b % 128) = m at *
  rw [Nat.pow_succ]
  generalize 128 ^ j = p at *
  rw [wrS (m : Int) (by omega) (by omega), wrS _ (by omega) (by omega)]
  refine ⟨by omega, by omega⟩

theorem ah_some {l : List UInt8} {v : Nat} {q : List UInt8} (h : rdN 9 l = some (v, q)) : ahV l = v ∧ ahW l = (numB v).length := by simp [ahV, ahW, h]
theorem ah_none {l : List UInt8} (h : rdN 9 l = none) : ahV l = 0 ∧ ahW l = 0 := by simp [ahV, ahW, h]
theorem drop_cons (s : ByteArray) (j : Nat) (h : j < s.size) : s.data.toList.drop j = s[j] :: s.data.toList.drop (j + 1) := by
  rw [List.drop_eq_getElem_cons (by simpa using h)]; rfl
theorem rdN_byte (f : Nat) (c : UInt8) (r : List UInt8) (h : c.toNat < 128) : rdN (f + 1) (c :: r) = some (c.toNat, r) := by rw [rdN, if_pos h]

theorem ah_at (s : ByteArray) (j v : Nat) (hj : j < s.size) (h : rdN 9 s.data.toList = some (v, s.data.toList.drop (j + 1))) : ahV s.data.toList = v ∧ ahW s.data.toList = (j : Int) + 1 := by
  have e := congrArg List.length (rdN_some _ _ _ _ h).1
  have hl : s.data.toList.length = s.size := by simp
  rw [List.length_append, List.length_drop, hl] at e
  rw [(ah_some h).1, (ah_some h).2]
  exact ⟨rfl, by omega⟩

set_option maxRecDepth 100000 in
set_option maxHeartbeats 1000000 in
theorem ahead_any (s : ByteArray) (hs : s.size ≤ 20000) (w : World) :
    Calls Tryd.prog 63 #[.string s] w fun e w' => e = .returned (.tuple #[.int .i64 (ahV s.data.toList), .int .i64 (ahW s.data.toList)]) ∧ Below w.heap.size w w' := by
  go_enter Tryd.func63, Tryd.ntmps63
  go_wp2
  rw [show min (s.size : Int) 9 = ((min s.size 9 : Nat) : Int) by omega]
  generalize hN : min s.size 9 = N
  have n1 : N ≤ 9 := by omega
  have n2 : N ≤ s.size := by omega
  have HN : Hid (N = 9 ∨ N = s.size) := by show _ ∨ _; omega
  clear hN
  go_loopw [4, 9] (fun t i wr => ∃ j a : Nat, i = .int .i64 j ∧ t = .int .i64 a ∧ j ≤ N ∧ a < 128 ^ j ∧ wr = w ∧ Hid (rdN 9 s.data.toList = fin j a (rdN (9 - j) (s.data.toList.drop j)))) (fun _ i _ => N - (intOf i).toNat)
  case atStart => exact ⟨0, 0, rfl, rfl, Nat.zero_le _, by decide, rfl, (by show _ = _; rw [fin_zero]; rfl)⟩
  case round =>
    obtain ⟨j, a, rfl, rfl, hj, ha, rfl, H1⟩ := hrel
    have hj0 : (0 : Int) ≤ (j : Int) := by omega
    by_cases h1 : j < N
    · have h1' : (j : Int) < (N : Int) := by omega
      have h2 : j < s.size := by omega
      have h2' : (j : Int) < (s.size : Int) := by omega
      have hb : ((s[j]'h2).toNat : Int) < 256 := by have := (s[j]'h2).toNat_lt; omega
      have hb0 : (0 : Int) ≤ ((s[j]'h2).toNat : Int) := by omega
      obtain ⟨eS, lS⟩ := sh_add a (s[j]'h2).toNat j (by omega) ha
      have HS := Lib.hid eS
      clear eS
      have ED := drop_cons s j h2
      have e9 : 9 - j = (8 - j) + 1 := by omega
      by_cases hc : (s[j]'h2).toNat < 128
      · have hc' : decide ((128 : Int) ≤ ((s[j]'h2).toNat : Int)) = false := by simp; omega
        have R : rdN 9 s.data.toList = fin j a (some ((s[j]'h2).toNat, s.data.toList.drop (j + 1))) := by
          rw [H1.out, ED, e9, rdN_byte _ _ _ hc]
        by_cases hz : (s[j]'h2).toNat = 0
        · have hz' : (((s[j]'h2).toNat : Int) == 0) = true := by simp [hz]
          by_cases hj1 : 0 < j
          · have hj1' : (0 : Int) < (j : Int) := by omega
            have F := Lib.hid (ah_none (l := s.data.toList) (by rw [R]; simp [fin, hz]; omega))
            clear R ED HS H1
            go_wp2
            exact bodyPost_ret (v := .tuple #[.int .i64 0, .int .i64 0]) (by simp [results, Tryd.results63, go_sem]) rfl ⟨by rw [F.out.1, F.out.2], Below.refl _ _⟩
          · have hj1' : decide ((0 : Int) < (j : Int)) = false := by simp; omega
            have a0 : a = 0 := by
              have ja : j = 0 := by omega
              rw [ja] at ha; simpa using ha
            have F := Lib.hid (ah_at s j 0 h2 (by rw [R]; simp [fin, hz, a0]; omega))
            clear R ED H1
            go_wp2
            exact bodyPost_ret (v := .tuple #[.int .i64 0, .int .i64 ((j : Int) + 1)]) (by simp [results, Tryd.results63, go_sem, a0]) rfl ⟨by rw [F.out.1, F.out.2]; rfl, Below.refl _ _⟩
        · have hz' : (((s[j]'h2).toNat : Int) == 0) = false := by simp; omega
          have F := Lib.hid (ah_at s j (a + 128 ^ j * ((s[j]'h2).toNat % 128)) h2 (by rw [R]; simp only [fin]; rw [if_neg (fun h => hz h.2), Nat.mod_eq_of_lt hc]))
          clear R ED H1
          generalize a + 128 ^ j * ((s[j]'h2).toNat % 128) = V at *
          go_wp2
          rw [HS.out]
          exact bodyPost_ret (v := .tuple #[.int .i64 (V : Int), .int .i64 ((j : Int) + 1)]) (by simp [results, Tryd.results63, go_sem]) rfl ⟨by rw [F.out.1, F.out.2], Below.refl _ _⟩
      · have hc' : (128 : Int) ≤ ((s[j]'h2).toNat : Int) := by omega
        have HF : Hid (rdN 9 s.data.toList = fin (j + 1) (a + 128 ^ j * ((s[j]'h2).toNat % 128)) (rdN (9 - (j + 1)) (s.data.toList.drop (j + 1)))) := by
          show _ = _
          rw [H1.out, ED, e9, fin_step _ _ _ _ _ hc, show (s[j]'h2).toNat % 128 = (s[j]'h2).toNat - 128 by have := (s[j]'h2).toNat_lt; omega, show 9 - (j + 1) = 8 - j by omega]
        clear ED e9
        go_wp2
        exact ⟨⟨j + 1, a + 128 ^ j * ((s[j]'h2).toNat % 128), by go_num, by rw [HS.out], by omega, lS, trivial, HF⟩, by simp [intOf]; omega⟩
    · have h1' : ¬ (j : Int) < (N : Int) := by omega
      have F := Lib.hid (ah_none (l := s.data.toList) (by
        rw [H1.out]
        have jN : j = N := by omega
        rcases HN.out with h | h
        · rw [jN, h]; rfl
        · rw [jN, h, List.drop_of_length_le (by simp)]
          cases 9 - s.size <;> rfl))
      clear H1
      go_wp2
      exact bodyPost_ret (v := .tuple #[.int .i64 0, .int .i64 0]) (by simp [results, Tryd.results63, go_sem]) rfl ⟨by rw [F.out.1, F.out.2], Below.refl _ _⟩

end Go.Proofs.YtnkdkbchendpmaaDoor
