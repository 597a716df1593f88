/-
  LISTS THAT RISE, a station that is right, an Id among others.
-/
import Derived.Test.YtgfclllfkpblnaaAa
import Derived.Lib.Hide
namespace Go.Proofs.Ytgfclllfkpblnaa
open Go.RowKit
set_option linter.unusedVariables false

/-- The first k of zs rise, and lie within two bounds. -/
def UpTo (lo hi : Int) (zs : List Int) (k : Nat) : Prop := ∀ i, i < k → (lo ≤ zs.getD i 0 ∧ zs.getD i 0 ≤ hi) ∧ (0 < i → zs.getD (i - 1) 0 < zs.getD i 0)
def InRise (lo hi : Int) (zs : List Int) : Prop := UpTo lo hi zs zs.length
theorem UpTo.zero (lo hi : Int) (zs : List Int) : UpTo lo hi zs 0 := fun i h => absurd h (Nat.not_lt_zero _)
theorem UpTo.step {lo hi : Int} {zs : List Int} {k : Nat} (h : UpTo lo hi zs k) (h1 : lo ≤ zs.getD k 0) (h2 : zs.getD k 0 ≤ hi) (h3 : 0 < k → zs.getD (k - 1) 0 < zs.getD k 0) : UpTo lo hi zs (k + 1) := by
  intro i hi
  by_cases e : i = k
  · subst e; exact ⟨⟨h1, h2⟩, h3⟩
  · exact h i (by omega)
theorem UpTo.no {lo hi : Int} {zs : List Int} {k : Nat} (hk : k < zs.length) (h : ¬ (lo ≤ zs.getD k 0 ∧ zs.getD k 0 ≤ hi ∧ (0 < k → zs.getD (k - 1) 0 < zs.getD k 0))) : ¬ InRise lo hi zs := fun g => h ⟨(g k hk).1.1, (g k hk).1.2, (g k hk).2⟩

set_option maxHeartbeats 400000 in
theorem rw_nil (lo hi : Int) (sl : Option Addr) (cap : Nat) (w : World) :
    Calls Try.prog 34 #[.slice sl 0 cap, .int .i64 lo, .int .i64 hi] w fun e w' => e = .returned (.bool true) ∧ w' = w := by
  go_enter Try.func34, Try.ntmps34
  go_wp2
  refine wp_loop_rounds 1 ?_
  rw [rounds_succ]
  go_wp2
  go_ret
  exact ⟨rfl, rfl⟩

set_option maxHeartbeats 1000000 in
theorem rw_some (lo hi : Int) (c o cap : Nat) (zs : List Int) (w : World) (hn : zs.length ≤ maxLen) (hz : IntsAt w c o zs) :
    Calls Try.prog 34 #[.slice (some ⟨c, o, none⟩) zs.length cap, .int .i64 lo, .int .i64 hi] w fun e w' => e = .returned (.bool (B (InRise lo hi zs))) ∧ Below w.heap.size w w' := by
  unfold maxLen at hn
  have HZ := Lib.hid hz
  clear hz
  generalize hN : zs.length = n at *
  have HN := Lib.hid hN
  clear hN
  go_enter Try.func34, Try.ntmps34
  go_wp2
  go_loopw [11] (fun i wr => ∃ k : Nat, i = .int .i64 k ∧ k ≤ n ∧ Hid (UpTo lo hi zs k) ∧ Hid (Below w.heap.size w wr)) (fun i _ => n - (intOf i).toNat)
  case atStart => exact ⟨0, rfl, Nat.zero_le _, UpTo.zero _ _ _, Below.refl _ _⟩
  case round =>
    obtain ⟨k, rfl, hk, H1, H2⟩ := hrel
    have hk0 : (0 : Int) ≤ (k : Int) := by omega
    by_cases h1 : k < n
    · have h1' : (k : Int) < (n : Int) := by omega
      have hlt : k < zs.length := by rw [HN.out]; exact h1
      have hc : wr.cell? ⟨c, o + k, none⟩ = some (.int .i64 (zs.getD k 0)) := (H2.out.cell HZ.out.1).trans (HZ.out.2 k hlt)
      by_cases a1 : zs.getD k 0 < lo
      · have HF := Lib.hid (B_no (UpTo.no (lo := lo) (hi := hi) hlt (fun g => by have := g.1; omega)))
        clear hlt
        generalize zs.getD k 0 = z at *
        go_wp2
        go_ret
        exact ⟨by rw [HF.out]; rfl, H2.out⟩
      · by_cases a2 : hi < zs.getD k 0
        · have HF := Lib.hid (B_no (UpTo.no (lo := lo) (hi := hi) hlt (fun g => by have := g.2.1; omega)))
          clear hlt
          generalize zs.getD k 0 = z at *
          go_wp2
          go_ret
          exact ⟨by rw [HF.out]; rfl, H2.out⟩
        · by_cases a3 : 0 < k
          · have a3' : (0 : Int) < (k : Int) := by omega
            have ek : ((k : Int) - 1).toNat = k - 1 := by omega
            have hd : wr.cell? ⟨c, o + (k - 1), none⟩ = some (.int .i64 (zs.getD (k - 1) 0)) := (H2.out.cell HZ.out.1).trans (HZ.out.2 (k - 1) (by omega))
            by_cases a4 : zs.getD k 0 ≤ zs.getD (k - 1) 0
            · have HF := Lib.hid (B_no (UpTo.no (lo := lo) (hi := hi) hlt (fun g => by have := g.2.2 a3; omega)))
              clear hlt
              generalize zs.getD k 0 = z at *
              generalize zs.getD (k - 1) 0 = y at *
              go_wp2
              go_ret
              exact ⟨by rw [HF.out]; rfl, H2.out⟩
            · have HS := Lib.hid (H1.out.step (by omega) (by omega) (fun _ => by omega))
              clear hlt
              generalize zs.getD k 0 = z at *
              generalize zs.getD (k - 1) 0 = y at *
              go_wp2
              go_roundw
              case rel => exact ⟨k + 1, by go_num, by omega, HS, H2⟩
              case measure => simp [intOf]; omega
          · have a3' : k = 0 := by omega
            have HS := Lib.hid (H1.out.step (by omega) (by omega) (fun h => absurd h a3))
            clear hlt
            generalize zs.getD k 0 = z at *
            have a5 : ¬ (0 : Int) < (k : Int) := by omega
            clear a3'
            go_wp2
            go_roundw
            case rel => exact ⟨k + 1, by go_num, by omega, HS, H2⟩
            case measure => simp [intOf]; omega
    · have h1' : ¬ (k : Int) < (n : Int) := by omega
      have HE : Hid (B (InRise lo hi zs) = true) := B_yes (by have := H1.out; rwa [show k = zs.length by rw [HN.out]; omega] at this)
      go_wp2
      go_ret
      exact ⟨by rw [HE.out]; rfl, H2.out⟩
theorem rw_any (lo hi : Int) (sl : Option Addr) (cap : Nat) (zs : List Int) (w : World) (hn : zs.length ≤ maxLen) (hz : Ints w sl zs) :
    Calls Try.prog 34 #[.slice sl zs.length cap, .int .i64 lo, .int .i64 hi] w fun e w' => e = .returned (.bool (B (InRise lo hi zs))) ∧ Below w.heap.size w w' := by
  rcases hz with rfl | ⟨c, o, rfl, h⟩
  · rw [B_yes (show InRise lo hi [] from UpTo.zero lo hi [])]
    refine (rw_nil lo hi sl cap w).mono ?_
    rintro e w' ⟨rfl, rfl⟩
    exact ⟨rfl, Below.refl _ _⟩
  · exact rw_some lo hi c o cap zs w hn h

/-- A station but for its Id. -/
def StOK (s : Int) (zs : List Int) : Prop := (1 ≤ s ∧ s ≤ 1000) ∧ (1 ≤ zs.length ∧ zs.length ≤ 8) ∧ InRise 2 51 zs
abbrev SV (i s : Int) (sl : Option Addr) (n cap : Nat) : Value := .agg #[.int .i64 i, .int .i64 s, .slice sl n cap]

set_option maxHeartbeats 1000000 in
theorem sr_any (i s : Int) (sl : Option Addr) (cap : Nat) (zs : List Int) (w : World) (hn : zs.length ≤ maxLen) (hz : Ints w sl zs) :
    Calls Try.prog 42 #[SV i s sl zs.length cap] w fun e w' => e = .returned (.bool (B (StOK s zs))) ∧ Below w.heap.size w w' := by
  by_cases h1 : s < 1
  · have F := Lib.hid (B_no (p := StOK s zs) (fun h => by have := h.1.1; omega))
    clear hz hn
    generalize zs.length = n at *
    go_enter Try.func42, Try.ntmps42
    go_wp2
    go_ret
    exact ⟨by rw [F.out]; rfl, bA0 _ _⟩
  · by_cases h2 : 1000 < s
    · have F := Lib.hid (B_no (p := StOK s zs) (fun h => by have := h.1.2; omega))
      clear hz hn
      generalize zs.length = n at *
      go_enter Try.func42, Try.ntmps42
      go_wp2
      go_ret
      exact ⟨by rw [F.out]; rfl, bA0 _ _⟩
    · by_cases h3 : zs.length < 1
      · have F := Lib.hid (B_no (p := StOK s zs) (fun h => by have := h.2.1.1; omega))
        have h3' : (zs.length : Int) < 1 := by omega
        clear hz hn
        generalize zs.length = n at *
        go_enter Try.func42, Try.ntmps42
        go_wp2
        go_ret
        exact ⟨by rw [F.out]; rfl, bA0 _ _⟩
      · have h3' : ¬ (zs.length : Int) < 1 := by omega
        by_cases h4 : 8 < zs.length
        · have F := Lib.hid (B_no (p := StOK s zs) (fun h => by have := h.2.1.2; omega))
          have h4' : (8 : Int) < (zs.length : Int) := by omega
          clear hz hn
          generalize zs.length = n at *
          go_enter Try.func42, Try.ntmps42
          go_wp2
          go_ret
          exact ⟨by rw [F.out]; rfl, bA0 _ _⟩
        · have h4' : ¬ (8 : Int) < (zs.length : Int) := by omega
          have F := Lib.hid (B_iff (p := InRise 2 51 zs) (q := StOK s zs) ⟨fun h => ⟨by omega, by omega, h⟩, fun h => h.2.2⟩)
          have E : Hid (∀ W, Below w.heap.size w W → Calls Try.prog 34 #[.slice sl zs.length cap, .int .i64 2, .int .i64 51] W fun e w' => e = .returned (.bool (B (InRise 2 51 zs))) ∧ Below W.heap.size W w') := fun W hW => rw_any 2 51 sl cap zs W hn (hz.below hW)
          generalize B (InRise 2 51 zs) = r at *
          clear hz hn
          generalize zs.length = n at *
          go_enter Try.func42, Try.ntmps42
          go_wp2_with fail
          refine (E.out _ (bA0 _ _)).mono ?_
          rintro e w1 ⟨rfl, b1⟩
          have P := Lib.hid (bT (bA0 w _) b1)
          clear b1
          go_wp2
          go_ret
          exact ⟨by rw [← F.out]; rfl, P.out⟩

def RiseTo (zs : List Int) (k : Nat) : Prop := ∀ i, i < k → 0 < i → zs.getD (i - 1) 0 < zs.getD i 0
theorem InRise.iff (lo hi : Int) (zs : List Int) : InRise lo hi zs ↔ RiseTo zs zs.length ∧ zs.all (inB lo hi) = true := by
  constructor
  · intro h
    refine ⟨fun i h1 h2 => (h i h1).2 h2, ?_⟩
    rw [List.all_eq_true]
    intro x hx
    obtain ⟨i, hi, rfl⟩ := List.getElem_of_mem hx
    have := (h i hi).1
    simp only [List.getD_eq_getElem?_getD, hi, List.getElem?_eq_getElem, Option.getD_some] at this
    simp [inB, this]
  · rintro ⟨h1, h2⟩ i h
    refine ⟨?_, fun h0 => h1 i h h0⟩
    have := List.all_eq_true.1 h2 zs[i] (List.getElem_mem h)
    simp only [inB, decide_eq_true_eq] at this
    simpa [h] using this

set_option maxHeartbeats 400000 in
theorem ri_small (sl : Option Addr) (n cap : Nat) (h : n ≤ 1) (w : World) :
    Calls Try.prog 29 #[.slice sl n cap] w fun e w' => e = .returned (.bool true) ∧ w' = w := by
  have h' : ¬ (1 : Int) < (n : Int) := by omega
  go_enter Try.func29, Try.ntmps29
  go_wp2
  refine wp_loop_rounds 1 ?_
  rw [rounds_succ]
  go_wp2
  go_ret
  exact ⟨rfl, rfl⟩
set_option maxHeartbeats 1000000 in
theorem ri_some (c o cap : Nat) (zs : List Int) (w : World) (hn : zs.length ≤ 1048576) (hz : IntsAt w c o zs) (hl : 1 ≤ zs.length) :
    Calls Try.prog 29 #[.slice (some ⟨c, o, none⟩) zs.length cap] w fun e w' => e = .returned (.bool (B (RiseTo zs zs.length))) ∧ Below w.heap.size w w' := by
  have HZ := Lib.hid hz
  clear hz
  generalize hN : zs.length = n at *
  have HN := Lib.hid hN
  clear hN
  go_enter Try.func29, Try.ntmps29
  go_wp2
  go_loopw [3] (fun i wr => ∃ k : Nat, i = .int .i64 k ∧ 1 ≤ k ∧ k ≤ n ∧ Hid (RiseTo zs k) ∧ Hid (Below w.heap.size w wr)) (fun i _ => n - (intOf i).toNat)
  case atStart => exact ⟨1, rfl, Nat.le_refl _, hl, fun i h1 h2 => by omega, Below.refl _ _⟩
  case round =>
    obtain ⟨k, rfl, hk1, hk, H1, H2⟩ := hrel
    have hk0 : (0 : Int) ≤ (k : Int) := by omega
    by_cases h1 : k < n
    · have h1' : (k : Int) < (n : Int) := by omega
      have hlt : k < zs.length := by rw [HN.out]; exact h1
      have hc : wr.cell? ⟨c, o + k, none⟩ = some (.int .i64 (zs.getD k 0)) := (H2.out.cell HZ.out.1).trans (HZ.out.2 k hlt)
      have ek : ((k : Int) - 1).toNat = k - 1 := by omega
      have hd : wr.cell? ⟨c, o + (k - 1), none⟩ = some (.int .i64 (zs.getD (k - 1) 0)) := (H2.out.cell HZ.out.1).trans (HZ.out.2 (k - 1) (by omega))
      have hw : IntKind.i64.wrap ((k : Int) - 1) = (k : Int) - 1 := by rw [IntKind.wrap_i64]; omega
      by_cases a4 : zs.getD k 0 ≤ zs.getD (k - 1) 0
      · have HF := Lib.hid (B_no (p := RiseTo zs n) (fun g => by have := g k h1 (by omega); omega))
        clear hlt
        generalize zs.getD k 0 = z at *
        generalize zs.getD (k - 1) 0 = y at *
        go_wp2
        go_quiet (fail)
        go_wp2
        go_ret
        exact ⟨by rw [HF.out]; rfl, below_drewN H2.out _⟩
      · have HS : Hid (RiseTo zs (k + 1)) := fun i h2 h3 => by
          by_cases e : i = k
          · subst e; omega
          · exact H1.out i (by omega) h3
        clear hlt
        generalize zs.getD k 0 = z at *
        generalize zs.getD (k - 1) 0 = y at *
        go_wp2
        go_quiet (fail)
        go_wp2
        go_roundw
        case rel => exact ⟨k + 1, by go_num, by omega, by omega, HS, below_drewN H2.out _⟩
        case measure => simp [intOf]; omega
    · have h1' : ¬ (k : Int) < (n : Int) := by omega
      have HE : Hid (B (RiseTo zs n) = true) := B_yes (by have := H1.out; rwa [show k = n by omega] at this)
      go_wp2
      go_ret
      exact ⟨by rw [HE.out]; rfl, H2.out⟩
theorem ri_any (sl : Option Addr) (cap : Nat) (zs : List Int) (w : World) (hn : zs.length ≤ 1048576) (hz : Ints w sl zs) :
    Calls Try.prog 29 #[.slice sl zs.length cap] w fun e w' => e = .returned (.bool (B (RiseTo zs zs.length))) ∧ Below w.heap.size w w' := by
  by_cases hl : 1 ≤ zs.length
  · rcases hz with rfl | ⟨c, o, rfl, h⟩
    · simp at hl
    · exact ri_some c o cap zs w hn h hl
  · rw [B_yes (p := RiseTo zs zs.length) (fun i h1 h2 => by omega)]
    refine (ri_small sl _ cap (by omega) w).mono ?_
    rintro e w' ⟨rfl, rfl⟩
    exact ⟨rfl, Below.refl _ _⟩

end Go.Proofs.Ytgfclllfkpblnaa
