/-
  LISTS OF NUMBERS: how they lie, and whether all are money.
-/
import Derived.Test.YtcganhhnkidddaaMb
import Derived.Deep.QuietTactic
import Derived.BigQuiet
namespace Go.Proofs.Ytcganhhnkidddaa
open Go.RowKit
set_option linter.unusedVariables false

/-- The numbers zs lie from cell o of block c on. -/
def IntsAt (w : World) (c o : Nat) (zs : List Int) : Prop :=
  c < w.heap.size ∧ ∀ i, i < zs.length → w.cell? ⟨c, o + i, none⟩ = some (.int .i64 (zs.getD i 0))
/-- A slice of the numbers zs. -/
def Ints (w : World) (sl : Option Addr) (zs : List Int) : Prop := zs = [] ∨ ∃ c o, sl = some ⟨c, o, none⟩ ∧ IntsAt w c o zs

theorem IntsAt.below {w w' : World} {c o : Nat} {zs : List Int} (h : IntsAt w c o zs) (hb : Below w.heap.size w w') : IntsAt w' c o zs :=
  ⟨Nat.lt_of_lt_of_le h.1 hb.size, fun i hi => (hb.cell h.1).trans (h.2 i hi)⟩
theorem Ints.below {w w' : World} {sl : Option Addr} {zs : List Int} (h : Ints w sl zs) (hb : Below w.heap.size w w') : Ints w' sl zs := by
  rcases h with h | ⟨c, o, e, h⟩
  · exact .inl h
  · exact .inr ⟨c, o, e, h.below hb⟩

theorem all_step (p : Int → Bool) (zs : List Int) (k : Nat) (h : k < zs.length) (hp : (zs.take k).all p = true) : (zs.take (k + 1)).all p = p (zs.getD k 0) := by
  rw [List.take_succ_eq_append_getElem h, List.all_append, hp]
  simp [h]
theorem all_no (p : Int → Bool) (zs : List Int) (k : Nat) (h : k < zs.length) (hp : p (zs.getD k 0) = false) : zs.all p = false := by
  rw [List.all_eq_false]
  exact ⟨zs[k], List.getElem_mem h, by simpa [h] using hp⟩
theorem all_end (p : Int → Bool) (zs : List Int) (k : Nat) (h : zs.length ≤ k) (hp : (zs.take k).all p = true) : zs.all p = true := by
  rwa [List.take_of_length_le h] at hp

set_option maxHeartbeats 400000 in
theorem allMoney_nil (sl : Option Addr) (cap : Nat) (w : World) :
    Calls Try.prog 48 #[.slice sl 0 cap] w fun e w' => e = .returned (.bool true) ∧ Below w.heap.size w w' := by
  go_enter Try.func48, Try.ntmps48
  go_wp2
  refine wp_loop_rounds 1 ?_
  rw [rounds_succ]
  go_wp2
  go_ret
  exact ⟨rfl, Below.refl _ _⟩

set_option maxHeartbeats 400000 in
theorem allMoney_some (c o cap : Nat) (zs : List Int) (w : World) (hn : zs.length ≤ maxLen) (hz : IntsAt w c o zs) :
    Calls Try.prog 48 #[.slice (some ⟨c, o, none⟩) zs.length cap] w fun e w' => e = .returned (.bool (zs.all isM)) ∧ Below w.heap.size w w' := by
  unfold maxLen at hn
  have HZ : Hid (IntsAt w c o zs) := hz
  clear hz
  generalize hN : zs.length = n at *
  have HN : Hid (zs.length = n) := hN
  clear hN
  go_enter Try.func48, Try.ntmps48
  go_wp2
  go_loopw [7] (fun i wr => ∃ k : Nat, i = .int .i64 k ∧ k ≤ n ∧ Hid ((zs.take k).all isM = true) ∧ Hid (Below w.heap.size w wr)) (fun i _ => n - (intOf i).toNat)
  case atStart => exact ⟨0, rfl, Nat.zero_le _, (by show (zs.take 0).all isM = true; simp), Below.refl _ _⟩
  case round =>
    obtain ⟨k, rfl, hk, H1, H2⟩ := hrel
    have hk0 : (0 : Int) ≤ (k : Int) := by omega
    by_cases h1 : k < n
    · have h1' : (k : Int) < (n : Int) := by omega
      have hc : wr.cell? ⟨c, o + k, none⟩ = some (.int .i64 (zs.getD k 0)) := by
        rw [H2.out.cell HZ.out.1]; exact HZ.out.2 k (by rw [HN.out]; exact h1)
      cases hb : isM (zs.getD k 0)
      · have HF : Hid (zs.all isM = false) := all_no isM zs k (by rw [HN.out]; exact h1) hb
        generalize zs.getD k 0 = z at *
        go_wp2_with fail
        refine (inBound0_any _ _).mono ?_
        rintro e w2 ⟨rfl, hb2⟩
        go_wp2
        go_ret
        exact ⟨by rw [HF.out]; rfl, bT H2.out hb2⟩
      · have HS : Hid ((zs.take (k + 1)).all isM = true) := (all_step isM zs k (by rw [HN.out]; exact h1) H1.out).trans hb
        generalize zs.getD k 0 = z at *
        go_wp2_with fail
        refine (inBound0_any _ _).mono ?_
        rintro e w2 ⟨rfl, hb2⟩
        go_wp2
        go_roundw
        case rel => exact ⟨k + 1, by go_num, by omega, HS, bT H2.out hb2⟩
        case measure => simp [intOf]; omega
    · have h1' : ¬ (k : Int) < (n : Int) := by omega
      have HE : Hid (zs.all isM = true) := all_end isM zs k (by rw [HN.out]; omega) H1.out
      go_wp2
      go_ret
      exact ⟨by rw [HE.out]; rfl, H2.out⟩

theorem allMoney_any (sl : Option Addr) (cap : Nat) (zs : List Int) (w : World) (hn : zs.length ≤ maxLen) (hz : Ints w sl zs) :
    Calls Try.prog 48 #[.slice sl zs.length cap] w fun e w' => e = .returned (.bool (zs.all isM)) ∧ Below w.heap.size w w' := by
  rcases hz with rfl | ⟨c, o, rfl, h⟩
  · exact allMoney_nil sl cap w
  · exact allMoney_some c o cap zs w hn h

set_option maxHeartbeats 400000 in
theorem l01All_nil (sl : Option Addr) (cap : Nat) (x y : Value) (w : World) :
    Calls Try.prog 49 #[.slice sl 0 cap, x, y] w fun e w' => e = .returned (.bool true) ∧ w' = w := by
  go_enter Try.func49, Try.ntmps49
  go_wp2
  refine wp_loop_rounds 1 ?_
  rw [rounds_succ]
  go_wp2
  go_ret
  exact ⟨rfl, rfl⟩

set_option maxHeartbeats 400000 in
theorem l01All_some (c o cap : Nat) (zs : List Int) (w : World) (hn : zs.length ≤ maxLen) (hz : IntsAt w c o zs) :
    Calls Try.prog 49 #[.slice (some ⟨c, o, none⟩) zs.length cap, .int .i64 (-1000000000000), .int .i64 1000000000000] w fun e w' => e = .returned (.bool (zs.all isM)) ∧ w' = w := by
  unfold maxLen at hn
  have HZ : Hid (IntsAt w c o zs) := hz
  clear hz
  generalize hN : zs.length = n at *
  have HN : Hid (zs.length = n) := hN
  clear hN
  go_enter Try.func49, Try.ntmps49
  go_wp2
  go_loop [7] (fun i => ∃ k : Nat, i = .int .i64 k ∧ k ≤ n ∧ Hid ((zs.take k).all isM = true)) (fun i => n - (intOf i).toNat)
  case atStart => exact ⟨0, rfl, Nat.zero_le _, (by show (zs.take 0).all isM = true; simp)⟩
  case round =>
    obtain ⟨k, rfl, hk, H1⟩ := hrel
    have hk0 : (0 : Int) ≤ (k : Int) := by omega
    by_cases h1 : k < n
    · have h1' : (k : Int) < (n : Int) := by omega
      have hc : w.cell? ⟨c, o + k, none⟩ = some (.int .i64 (zs.getD k 0)) := HZ.out.2 k (by rw [HN.out]; exact h1)
      by_cases a1 : zs.getD k 0 < -1000000000000
      · have HF : Hid (zs.all isM = false) := all_no isM zs k (by rw [HN.out]; exact h1) (by simp only [isM, decide_eq_false_iff_not]; omega)
        generalize zs.getD k 0 = z at *
        go_wp2
        go_ret
        exact ⟨by rw [HF.out]; rfl, rfl⟩
      · by_cases a2 : 1000000000000 < zs.getD k 0
        · have HF : Hid (zs.all isM = false) := all_no isM zs k (by rw [HN.out]; exact h1) (by simp only [isM, decide_eq_false_iff_not]; omega)
          generalize zs.getD k 0 = z at *
          go_wp2
          go_ret
          exact ⟨by rw [HF.out]; rfl, rfl⟩
        · have HS : Hid ((zs.take (k + 1)).all isM = true) := (all_step isM zs k (by rw [HN.out]; exact h1) H1.out).trans (by simp only [isM, decide_eq_true_eq]; omega)
          generalize zs.getD k 0 = z at *
          go_wp2
          go_round
          case rel => exact ⟨k + 1, by go_num, by omega, HS⟩
          case measure => simp [intOf]; omega
    · have h1' : ¬ (k : Int) < (n : Int) := by omega
      have HE : Hid (zs.all isM = true) := all_end isM zs k (by rw [HN.out]; omega) H1.out
      go_wp2
      go_ret
      exact ⟨by rw [HE.out]; rfl, rfl⟩

theorem l01All_any (sl : Option Addr) (cap : Nat) (zs : List Int) (w : World) (hn : zs.length ≤ maxLen) (hz : Ints w sl zs) :
    Calls Try.prog 49 #[.slice sl zs.length cap, .int .i64 (-1000000000000), .int .i64 1000000000000] w fun e w' => e = .returned (.bool (zs.all isM)) ∧ w' = w := by
  rcases hz with rfl | ⟨c, o, rfl, h⟩
  · exact l01All_nil sl cap _ _ w
  · exact l01All_some c o cap zs w hn h

end Go.Proofs.Ytcganhhnkidddaa
