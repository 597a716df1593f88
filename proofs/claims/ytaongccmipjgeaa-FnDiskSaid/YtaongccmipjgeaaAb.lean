/-
  DISKS: when one is right, on both sides; how one is copied and held against another.
-/
import Derived.Test.YtaongccmipjgeaaAa
import Derived.Deep.RegionHeld3
namespace Go.Proofs.Ytaongccmipjgeaa
open Go.RowKit
set_option linter.unusedVariables false

def neB (s : ByteArray) : Bool := !s.toList.isEmpty
/-- A right disk. -/
def dR (s : ByteArray) (ss : List ByteArray) : Bool := decide (ss.length ≤ 100) && (ss.all neB && decide (s.size + tot ss ≤ 20000))
theorem dR_n {s : ByteArray} {ss : List ByteArray} (h : 100 < ss.length) : dR s ss = false := by
  have : ¬ ss.length ≤ 100 := by omega
  simp [dR, this]
theorem dR_z {s : ByteArray} {ss : List ByteArray} (h : 20000 < s.size + tot ss) : dR s ss = false := by
  have : ¬ s.size + tot ss ≤ 20000 := by omega
  simp [dR, this]
theorem dR_e {s : ByteArray} {ss : List ByteArray} (k : Nat) (hk : k < ss.length) (h : neB (at0 ss k) = false) : dR s ss = false := by
  have : ss.all neB = false := by
    rw [List.all_eq_false]
    exact ⟨_, at0_mem ss k hk, by simp [h]⟩
  simp [dR, this]
theorem dR_a {s : ByteArray} {ss : List ByteArray} (h : ss.length ≤ 100) (ha : ss.all neB = true) : dR s ss = decide (s.size + tot ss ≤ 20000) := by simp [dR, h, ha]
theorem dR_parts {s : ByteArray} {ss : List ByteArray} (h : dR s ss = true) : ss.length ≤ 100 ∧ ss.all neB = true ∧ s.size + tot ss ≤ 20000 := by
  simp only [dR, Bool.and_eq_true, decide_eq_true_eq] at h
  exact ⟨h.1, h.2.1, h.2.2⟩
theorem all_step (ss : List ByteArray) (k : Nat) (h : k < ss.length) (hp : (ss.take k).all neB = true) (hz : neB (at0 ss k) = true) : (ss.take (k + 1)).all neB = true := by
  rw [List.take_succ_eq_append_getElem h, List.all_append, hp, ← at0_lt _ _ h]
  simp [hz]
theorem all_end (ss : List ByteArray) (k : Nat) (h : ss.length ≤ k) (hp : (ss.take k).all neB = true) : ss.all neB = true := by
  rwa [List.take_of_length_le h] at hp
theorem tot_ge (ss : List ByteArray) (k : Nat) (h : k < ss.length) : (at0 ss k).size ≤ tot ss := by
  have h1 := tot_step ss k h
  have h2 := tot_take ss (k + 1)
  omega

abbrev DV (s : ByteArray) (sl : Option Addr) (n cap : Nat) : Value := .agg #[.string s, .slice sl n cap]

set_option maxHeartbeats 1000000 in
theorem sdr_long (s : ByteArray) (sl : Option Addr) (n cap : Nat) (w : World) (h : 100 < n) :
    Calls Try.prog 11 #[DV s sl n cap] w fun e w' => e = .returned (.bool false) ∧ Below w.heap.size w w' := by
  have h' : (100 : Int) < (n : Int) := by omega
  go_enter Try.func11, Try.ntmps11
  go_wp2
  go_ret
  exact ⟨rfl, bA0 _ _⟩
set_option maxHeartbeats 1000000 in
theorem sdr_big (s : ByteArray) (sl : Option Addr) (n cap : Nat) (w : World) (h : n ≤ 100) (hs : 20000 < s.size) :
    Calls Try.prog 11 #[DV s sl n cap] w fun e w' => e = .returned (.bool false) ∧ Below w.heap.size w w' := by
  have h' : decide ((100 : Int) < (n : Int)) = false := by simp; omega
  have hs' : (20000 : Int) < (s.size : Int) := by omega
  go_enter Try.func11, Try.ntmps11
  go_wp2
  go_ret
  exact ⟨rfl, bA0 _ _⟩
set_option maxHeartbeats 1000000 in
theorem sdr_nil (s : ByteArray) (sl : Option Addr) (cap : Nat) (w : World) (hs : s.size ≤ 20000) :
    Calls Try.prog 11 #[DV s sl 0 cap] w fun e w' => e = .returned (.bool true) ∧ Below w.heap.size w w' := by
  have hs' : ¬ (20000 : Int) < (s.size : Int) := by omega
  have hs2 : (s.size : Int) ≤ 20000 := by omega
  go_enter Try.func11, Try.ntmps11
  go_wp2
  refine wp_loop_rounds 1 ?_
  rw [rounds_succ]
  go_wp2
  go_ret
  exact ⟨rfl, bA0 _ _⟩

set_option maxHeartbeats 1000000 in
theorem sdr_some (s : ByteArray) (c o cap : Nat) (ss : List ByteArray) (w : World) (hn : ss.length ≤ 100) (hs : s.size ≤ 20000) (hz : StrsAt w c o ss) :
    Calls Try.prog 11 #[DV s (some ⟨c, o, none⟩) ss.length cap] w fun e w' => e = .returned (.bool (dR s ss)) ∧ Below w.heap.size w w' := by
  have hs' : ¬ (20000 : Int) < (s.size : Int) := by omega
  have hn' : decide ((100 : Int) < (ss.length : Int)) = false := by simp; omega
  have HZ := Lib.hid hz
  clear hz
  generalize hN : ss.length = n at *
  have HN : Hid (ss.length = n) := hN
  clear hN
  go_enter Try.func11, Try.ntmps11
  go_wp2
  go_loopw [3, 4] (fun l i wr => ∃ k : Nat, i = .int .i64 k ∧ k ≤ n ∧ Hid (l = .int .i64 ((s.size + tot (ss.take k) : Nat) : Int)) ∧ tot (ss.take k) ≤ 20000 * k ∧ Hid ((ss.take k).all neB = true) ∧ wr = w.alloc (.cells #[.string s, .slice (some ⟨c, o, none⟩) n cap] 25)) (fun _ i _ => n - (intOf i).toNat)
  case atStart => exact ⟨0, rfl, Nat.zero_le _, (by show _ = _; rw [tot_zero]; rfl), by rw [tot_zero]; omega, (by show (ss.take 0).all neB = true; simp), rfl⟩
  case round =>
    obtain ⟨k, rfl, hk, HL, htk, HA, rfl⟩ := hrel
    have hk0 : (0 : Int) ≤ (k : Int) := by omega
    obtain rfl := HL.out
    clear HL
    by_cases h1 : k < n
    · have h1' : (k : Int) < (n : Int) := by omega
      have hlt : k < ss.length := by rw [HN.out]; exact h1
      have hcl := HZ.out.1
      have hc : w.cell? ⟨c, o + k, none⟩ = some (.string (at0 ss k)) := HZ.out.2 k hlt
      have E := Lib.hid (tot_step ss k hlt)
      have G := Lib.hid (tot_ge ss k hlt)
      cases hE : (at0 ss k).toList.isEmpty
      · have HA2 : Hid ((ss.take (k + 1)).all neB = true) := all_step ss k hlt HA.out (by simp [neB, hE])
        by_cases hb : (at0 ss k).size ≤ 20000
        · have hb' : ¬ (20000 : Int) < ((at0 ss k).size : Int) := by omega
          clear hlt
          generalize at0 ss k = z at *
          generalize tot (ss.take k) = t at *
          have EE : Hid ((s.size : Int) + (t : Int) + (z.size : Int) = ((s.size + tot (ss.take (k + 1)) : Nat) : Int)) := by show _ = _; rw [E.out]; omega
          go_wp2
          go_roundw
          case rel => exact ⟨k + 1, by go_num, by omega, (by show _ = _; rw [← EE.out]), by rw [E.out]; omega, HA2, by trivial⟩
          case measure => simp [intOf]; omega
        · have hb' : (20000 : Int) < ((at0 ss k).size : Int) := by omega
          have HF : Hid (dR s ss = false) := dR_z (by have := G.out; omega)
          clear hlt
          generalize at0 ss k = z at *
          go_wp2
          go_ret
          exact ⟨by rw [HF.out]; rfl, bA0 _ _⟩
      · have HF : Hid (dR s ss = false) := dR_e k hlt (by simp [neB, hE])
        clear hlt
        generalize at0 ss k = z at *
        go_wp2
        go_ret
        exact ⟨by rw [HF.out]; rfl, bA0 _ _⟩
    · have h1' : ¬ (k : Int) < (n : Int) := by omega
      have HE : Hid (dR s ss = decide ((s.size : Int) + (tot (ss.take k) : Int) ≤ 20000)) := by
        show _ = _
        have h3 := HN.out
        rw [dR_a (by omega) (all_end ss k (by omega) HA.out), tot_all ss k (by omega)]
        congr 1
        apply propext
        omega
      generalize tot (ss.take k) = t at *
      go_wp2
      go_ret
      exact ⟨by rw [HE.out]; rfl, bA0 _ _⟩

theorem sdr_any (s : ByteArray) (sl : Option Addr) (cap : Nat) (ss : List ByteArray) (w : World) (hz : Strs w sl ss) :
    Calls Try.prog 11 #[DV s sl ss.length cap] w fun e w' => e = .returned (.bool (dR s ss)) ∧ Below w.heap.size w w' := by
  by_cases hn : ss.length ≤ 100
  · by_cases hs : s.size ≤ 20000
    · rcases hz with rfl | ⟨c, o, rfl, hz⟩
      · have : dR s [] = true := by simp [dR, tot, hs]
        rw [this]
        exact sdr_nil s sl cap w hs
      · exact sdr_some s c o cap ss w hn hs hz
    · rw [dR_z (by omega)]
      exact sdr_big s sl _ cap w hn (by omega)
  · rw [dR_n (by omega)]
    exact sdr_long s sl _ cap w (by omega)

/-! ### The program's side -/
set_option maxHeartbeats 1000000 in
theorem size_nil (s : ByteArray) (sl : Option Addr) (cap : Nat) (w : World) :
    Calls Try.prog 35 #[DV s sl 0 cap] w fun e w' => e = .returned (.int .i64 s.size) ∧ Below w.heap.size w w' := by
  go_enter Try.func35, Try.ntmps35
  go_wp2
  refine wp_loop_rounds 1 ?_
  rw [rounds_succ]
  go_wp2
  go_ret
  exact ⟨rfl, bA0 _ _⟩
set_option maxHeartbeats 1000000 in
theorem size_some (s : ByteArray) (c o cap : Nat) (ss : List ByteArray) (w : World) (hn : ss.length ≤ maxLen) (hs : s.size + tot ss ≤ 4000000) (hz : StrsAt w c o ss) :
    Calls Try.prog 35 #[DV s (some ⟨c, o, none⟩) ss.length cap] w fun e w' => e = .returned (.int .i64 ((s.size + tot ss : Nat) : Int)) ∧ Below w.heap.size w w' := by
  unfold maxLen at hn
  have HZ := Lib.hid hz
  have HS := Lib.hid hs
  clear hz hs
  generalize hN : ss.length = n at *
  have HN : Hid (ss.length = n) := hN
  clear hN
  go_enter Try.func35, Try.ntmps35
  go_wp2
  go_loopw [3, 12] (fun l i wr => ∃ k : Nat, i = .int .i64 k ∧ k ≤ n ∧ Hid (l = .int .i64 ((s.size + tot (ss.take k) : Nat) : Int)) ∧ wr = w.alloc (.cells #[.string s, .slice (some ⟨c, o, none⟩) n cap] 25)) (fun _ i _ => n - (intOf i).toNat)
  case atStart => exact ⟨0, rfl, Nat.zero_le _, (by show _ = _; rw [tot_zero]; rfl), rfl⟩
  case round =>
    obtain ⟨k, rfl, hk, HL, rfl⟩ := hrel
    have hk0 : (0 : Int) ≤ (k : Int) := by omega
    obtain rfl := HL.out
    clear HL
    by_cases h1 : k < n
    · have h1' : (k : Int) < (n : Int) := by omega
      have hlt : k < ss.length := by rw [HN.out]; exact h1
      have hcl := HZ.out.1
      have hc : w.cell? ⟨c, o + k, none⟩ = some (.string (at0 ss k)) := HZ.out.2 k hlt
      have E := Lib.hid (tot_step ss k hlt)
      have hsm : (s.size : Int) + (tot (ss.take k) : Int) + ((at0 ss k).size : Int) ≤ 4000000 := by
        have a1 := HS.out; have a2 := tot_take ss (k + 1); have a3 := E.out; omega
      clear hlt
      generalize at0 ss k = z at *
      generalize tot (ss.take k) = t at *
      have EE : Hid ((s.size : Int) + (t : Int) + (z.size : Int) = ((s.size + tot (ss.take (k + 1)) : Nat) : Int)) := by show _ = _; rw [E.out]; omega
      go_wp2
      go_roundw
      case rel => exact ⟨k + 1, by go_num, by omega, (by show _ = _; rw [← EE.out]), by trivial⟩
      case measure => simp [intOf]; omega
    · have h1' : ¬ (k : Int) < (n : Int) := by omega
      have HE : Hid (tot ss = tot (ss.take k)) := by
        show _ = _
        have h3 := HN.out
        rw [tot_all ss k (by omega)]
      generalize tot (ss.take k) = t at *
      go_wp2
      go_ret
      exact ⟨by rw [HE.out]; rfl, bA0 _ _⟩
theorem size_any (s : ByteArray) (sl : Option Addr) (cap : Nat) (ss : List ByteArray) (w : World) (hn : ss.length ≤ maxLen) (hs : s.size + tot ss ≤ 4000000) (hz : Strs w sl ss) :
    Calls Try.prog 35 #[DV s sl ss.length cap] w fun e w' => e = .returned (.int .i64 ((s.size + tot ss : Nat) : Int)) ∧ Below w.heap.size w w' := by
  rcases hz with rfl | ⟨c, o, rfl, hz⟩
  · exact size_nil s sl cap w
  · exact size_some s c o cap ss w hn hs hz

set_option maxHeartbeats 1000000 in
theorem idr_long (s : ByteArray) (sl : Option Addr) (n cap : Nat) (w : World) (h : 100 < n) :
    Calls Try.prog 14 #[DV s sl n cap] w fun e w' => e = .returned (.bool false) ∧ Below w.heap.size w w' := by
  have h' : (100 : Int) < (n : Int) := by omega
  go_enter Try.func14, Try.ntmps14
  go_wp2
  go_ret
  exact ⟨rfl, bA0 _ _⟩
set_option maxHeartbeats 1000000 in
theorem idr_nil (s : ByteArray) (sl : Option Addr) (cap : Nat) (w : World) (hs : s.size ≤ 4000000) :
    Calls Try.prog 14 #[DV s sl 0 cap] w fun e w' => e = .returned (.bool (dR s [])) ∧ Below w.heap.size w w' := by
  have e : dR s [] = decide ((s.size : Int) ≤ 20000) := by
    rw [dR_a (by simp) (by simp)]
    congr 1
    apply propext
    simp [tot]; omega
  rw [e]
  clear e
  go_enter Try.func14, Try.ntmps14
  go_wp2
  refine wp_loop_rounds 1 ?_
  rw [rounds_succ]
  go_wp2_with fail
  refine (size_nil _ _ _ _).mono ?_
  rintro e w1 ⟨rfl, b1⟩
  go_wp2
  go_ret
  exact ⟨rfl, bT (bA0 _ _) b1⟩
set_option maxHeartbeats 1000000 in
theorem idr_some (s : ByteArray) (c o cap : Nat) (ss : List ByteArray) (w : World) (hn : ss.length ≤ 100) (hs : s.size + tot ss ≤ 4000000) (hz : StrsAt w c o ss) :
    Calls Try.prog 14 #[DV s (some ⟨c, o, none⟩) ss.length cap] w fun e w' => e = .returned (.bool (dR s ss)) ∧ Below w.heap.size w w' := by
  have hn' : ¬ (100 : Int) < (ss.length : Int) := by omega
  have SZ : Hid (∀ w1, Below w.heap.size w w1 → Calls Try.prog 35 #[DV s (some ⟨c, o, none⟩) ss.length cap] w1 fun e w' => e = .returned (.int .i64 ((s.size + tot ss : Nat) : Int)) ∧ Below w1.heap.size w1 w') :=
    fun w1 hb => size_some s c o cap ss w1 (by unfold maxLen; omega) hs (hz.below hb)
  have HZ := Lib.hid hz
  clear hz
  generalize hN : ss.length = n at *
  have HN : Hid (ss.length = n) := hN
  clear hN
  go_enter Try.func14, Try.ntmps14
  go_wp2
  go_loopw [12] (fun i wr => ∃ k : Nat, i = .int .i64 k ∧ k ≤ n ∧ Hid ((ss.take k).all neB = true) ∧ wr = w.alloc (.cells #[.string s, .slice (some ⟨c, o, none⟩) n cap] 25)) (fun i _ => n - (intOf i).toNat)
  case atStart => exact ⟨0, rfl, Nat.zero_le _, (by show (ss.take 0).all neB = true; simp), rfl⟩
  case round =>
    obtain ⟨k, rfl, hk, HA, rfl⟩ := hrel
    have hk0 : (0 : Int) ≤ (k : Int) := by omega
    by_cases h1 : k < n
    · have h1' : (k : Int) < (n : Int) := by omega
      have hlt : k < ss.length := by rw [HN.out]; exact h1
      have hcl := HZ.out.1
      have hc : w.cell? ⟨c, o + k, none⟩ = some (.string (at0 ss k)) := HZ.out.2 k hlt
      cases hE : (at0 ss k).toList.isEmpty
      · have HA2 : Hid ((ss.take (k + 1)).all neB = true) := all_step ss k hlt HA.out (by simp [neB, hE])
        clear hlt
        generalize at0 ss k = z at *
        go_wp2
        go_roundw
        case rel => exact ⟨k + 1, by go_num, by omega, HA2, by trivial⟩
        case measure => simp [intOf]; omega
      · have HF : Hid (dR s ss = false) := dR_e k hlt (by simp [neB, hE])
        clear hlt
        generalize at0 ss k = z at *
        go_wp2
        go_ret
        exact ⟨by rw [HF.out]; rfl, bA0 _ _⟩
    · have h1' : ¬ (k : Int) < (n : Int) := by omega
      have HE : Hid (dR s ss = decide (((s.size + tot ss : Nat) : Int) ≤ 20000)) := by
        show _ = _
        have h3 := HN.out
        rw [dR_a (by omega) (all_end ss k (by omega) HA.out)]
        congr 1
        apply propext
        omega
      generalize s.size + tot ss = t at *
      go_wp2_with fail
      refine (SZ.out _ (bA0 _ _)).mono ?_
      rintro e w1 ⟨rfl, b1⟩
      go_wp2
      go_ret
      exact ⟨by rw [HE.out]; rfl, bT (bA0 _ _) b1⟩
theorem idr_any (s : ByteArray) (sl : Option Addr) (cap : Nat) (ss : List ByteArray) (w : World) (hs : s.size + tot ss ≤ 4000000) (hz : Strs w sl ss) :
    Calls Try.prog 14 #[DV s sl ss.length cap] w fun e w' => e = .returned (.bool (dR s ss)) ∧ Below w.heap.size w w' := by
  by_cases hn : ss.length ≤ 100
  · rcases hz with rfl | ⟨c, o, rfl, hz⟩
    · exact idr_nil s sl cap w (by omega)
    · exact idr_some s c o cap ss w hn hs hz
  · rw [dR_n (by omega)]
    exact idr_long s sl _ cap w (by omega)

end Go.Proofs.Ytaongccmipjgeaa
