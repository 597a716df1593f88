/-
  ARE CLAUSES RIGHT? The model's answer.
-/
import Derived.Test.YtoncpiaboceefaaDoorQd
import Derived.Test.YtoncpiaboceefaaDoorAf
import Derived.BigQuiet
namespace Go.Proofs.YtoncpiaboceefaaDoor
open Go.RowKit
set_option linter.unusedVariables false

/-- A literal of a variable up to vars. -/
def OkZ (vars z : Int) : Prop := z ≠ 0 ∧ z ≤ vars ∧ -vars ≤ z
/-- The one at i is of another variable than the first k. -/
def Apart (zs : List Int) (i k : Nat) : Prop := ∀ j, j < k → zs.getD j 0 ≠ zs.getD i 0 ∧ zs.getD j 0 ≠ -zs.getD i 0
def SpTo (vars : Int) (zs : List Int) (n : Nat) : Prop := ∀ i, i < n → OkZ vars (zs.getD i 0) ∧ Apart zs i i
/-- A clause is right, as the model asks it. -/
def ClS (vars : Int) (wide : Nat) (zs : List Int) : Prop := zs.length ≤ wide ∧ SpTo vars zs zs.length
theorem SpTo.zero (vars : Int) (zs : List Int) : SpTo vars zs 0 := fun i h => absurd h (Nat.not_lt_zero _)
theorem SpTo.step {vars : Int} {zs : List Int} {k : Nat} (h : SpTo vars zs k) (g : OkZ vars (zs.getD k 0)) (a : Apart zs k k) : SpTo vars zs (k + 1) := fun i hi => by
  by_cases e : i = k
  · subst e; exact ⟨g, a⟩
  · exact h i (by omega)
theorem Apart.zero (zs : List Int) (i : Nat) : Apart zs i 0 := fun j h => absurd h (Nat.not_lt_zero _)
theorem Apart.step {zs : List Int} {i k : Nat} (h : Apart zs i k) (g1 : zs.getD k 0 ≠ zs.getD i 0) (g2 : zs.getD k 0 ≠ -zs.getD i 0) : Apart zs i (k + 1) := fun j hj => by
  by_cases e : j = k
  · subst e; exact ⟨g1, g2⟩
  · exact h j (by omega)

theorem wrap_in (n : Int) (h : -9223372036854775808 ≤ n ∧ n ≤ 9223372036854775807) : wrap64 n = n := by unfold wrap64; omega

set_option maxRecDepth 100000 in
set_option maxHeartbeats 1000000 in
theorem l06_nil (vars : Int) (sl : Option Addr) (cap wide : Nat) (w : World) :
    Calls Tryd.prog 80 #[.int .i64 vars, .slice sl 0 cap, .int .i64 wide] w fun e w' => e = .returned (.bool true) ∧ Below w.heap.size w w' := by
  have h0 : ¬ (wide : Int) < 0 := by omega
  go_enter Tryd.func80, Tryd.ntmps80
  go_wp2
  refine wp_loop_rounds 1 ?_
  rw [rounds_succ]
  go_wp2
  go_ret
  exact ⟨rfl, Below.refl _ _⟩

set_option maxRecDepth 100000 in
set_option maxHeartbeats 4000000 in
theorem l06_some (vars : Int) (c o cap wide : Nat) (zs : List Int) (w : World) (hv0 : 0 ≤ vars) (hv1 : vars ≤ 96) (hn : zs.length ≤ 1048576) (hz : IntsAt w c o zs) :
    Calls Tryd.prog 80 #[.int .i64 vars, .slice (some ⟨c, o, none⟩) zs.length cap, .int .i64 wide] w fun e w' => e = .returned (.bool (B (ClS vars wide zs))) ∧ Below w.heap.size w w' := by
  have HZ := Lib.hid hz
  clear hz
  have hnv : wrap64 (-vars) = -vars := wrap_in _ ⟨by omega, by omega⟩
  by_cases hw : wide < zs.length
  · have hw' : (wide : Int) < (zs.length : Int) := by omega
    rw [B_no (p := ClS vars wide zs) (fun g => by have := g.1; omega)]
    clear HZ
    generalize zs.length = n at *
    go_enter Tryd.func80, Tryd.ntmps80
    go_wp2
    go_ret
    exact ⟨rfl, Below.refl _ _⟩
  have hw' : ¬ (wide : Int) < (zs.length : Int) := by omega
  have NN := Lib.hid (show ∀ i, i < zs.length → ¬ (OkZ vars (zs.getD i 0) ∧ Apart zs i i) → B (ClS vars wide zs) = false from fun i hi h => B_no (fun g => h (g.2 i hi)))
  have YY := Lib.hid (show ∀ i, zs.length ≤ i → SpTo vars zs i → B (ClS vars wide zs) = true from fun i hi h => B_yes ⟨by omega, fun j hj => h j (by omega)⟩)
  generalize hN : zs.length = n at *
  have HN := Lib.hid hN
  clear hN
  go_enter Tryd.func80, Tryd.ntmps80
  go_wp2
  go_loopw [7] (fun i wr => ∃ k : Nat, i = .int .i64 k ∧ k ≤ n ∧ Hid (SpTo vars zs k) ∧ Hid (Below w.heap.size w wr)) (fun i _ => n - (intOf i).toNat)
  case atStart => exact ⟨0, rfl, Nat.zero_le _, SpTo.zero _ _, Below.refl _ _⟩
  case round =>
    obtain ⟨i, rfl, hi, H1, H2⟩ := hrel
    have hi0 : (0 : Int) ≤ (i : Int) := by omega
    by_cases h1 : i < n
    · have h1' : (i : Int) < (n : Int) := by omega
      have hlt : i < zs.length := by rw [HN.out]; exact h1
      have hc : wr.cell? ⟨c, o + i, none⟩ = some (.int .i64 (zs.getD i 0)) := (H2.out.cell HZ.out.1).trans (HZ.out.2 i hlt)
      by_cases a1 : zs.getD i 0 = 0
      · have HF := Lib.hid (NN.out i h1 (fun g => g.1.1 a1))
        rw [a1] at hc
        clear hlt
        go_wp2
        go_ret
        exact ⟨by rw [HF.out]; rfl, H2.out⟩
      by_cases a2 : vars < zs.getD i 0
      · have HF := Lib.hid (NN.out i h1 (fun g => by have := g.1.2.1; omega))
        have a1' : (zs.getD i 0 == 0) = false := by simpa using a1
        clear hlt a1
        generalize zs.getD i 0 = z at *
        go_wp2
        go_ret
        exact ⟨by rw [HF.out]; rfl, H2.out⟩
      by_cases a3 : zs.getD i 0 < -vars
      · have HF := Lib.hid (NN.out i h1 (fun g => by have := g.1.2.2; omega))
        have a1' : (zs.getD i 0 == 0) = false := by simpa using a1
        clear hlt a1
        generalize zs.getD i 0 = z at *
        go_wp2
        go_ret
        exact ⟨by rw [HF.out]; rfl, H2.out⟩
      have OK := Lib.hid (show OkZ vars (zs.getD i 0) from ⟨a1, by omega, by omega⟩)
      have a1' : (zs.getD i 0 == 0) = false := by simpa using a1
      have hnz : wrap64 (-zs.getD i 0) = -zs.getD i 0 := wrap_in _ ⟨by omega, by omega⟩
      have FF := Lib.hid (show ∀ k, k < i → (zs.getD k 0 = zs.getD i 0 ∨ zs.getD k 0 = -zs.getD i 0) → B (ClS vars wide zs) = false from fun k hk e => NN.out i h1 (fun g => by
        have := g.2 k hk
        rcases e with e | e
        · exact this.1 e
        · exact this.2 e))
      have SS := Lib.hid (show Apart zs i i → SpTo vars zs (i + 1) from fun a => H1.out.step OK.out a)
      have SA := Lib.hid (show ∀ k, Apart zs i k → zs.getD k 0 ≠ zs.getD i 0 → zs.getD k 0 ≠ -zs.getD i 0 → Apart zs i (k + 1) from fun k a g1 g2 => a.step g1 g2)
      have CZ := Lib.hid (show ∀ W, Below w.heap.size w W → W.cell? ⟨c, o + i, none⟩ = some (.int .i64 (zs.getD i 0)) from fun W hW => (hW.cell HZ.out.1).trans (HZ.out.2 i hlt))
      clear hlt a1 OK H1 NN YY
      generalize zs.getD i 0 = z at *
      go_wp2
      go_loopw [8] (fun j wq => ∃ k : Nat, j = .int .i64 k ∧ k ≤ i ∧ Hid (Apart zs i k) ∧ Hid (Below w.heap.size w wq)) (fun j _ => i - (intOf j).toNat)
      case atStart => exact ⟨0, rfl, Nat.zero_le _, Apart.zero _ _, H2⟩
      case round =>
        obtain ⟨k, rfl, hk, H3, H4⟩ := hrel
        have hk0 : (0 : Int) ≤ (k : Int) := by omega
        by_cases g1 : k < i
        · have g1' : (k : Int) < (i : Int) := by omega
          have gn : (k : Int) < (n : Int) := by omega
          have hlt : k < zs.length := by rw [HN.out]; omega
          have hd : wr.cell? ⟨c, o + k, none⟩ = some (.int .i64 (zs.getD k 0)) := (H4.out.cell HZ.out.1).trans (HZ.out.2 k hlt)
          have hc : wr.cell? ⟨c, o + i, none⟩ = some (.int .i64 z) := CZ.out wr H4.out
          clear hlt
          by_cases e1 : zs.getD k 0 = z
          · have HF := Lib.hid (FF.out k g1 (.inl e1))
            rw [e1] at hd
            have hzz : (z == z) = true := by simp
            clear FF SA SS
            go_wp2
            go_quiet (fail)
            go_wp2
            go_ret
            exact ⟨by rw [HF.out]; rfl, below_drewN H4.out _⟩
          · have e1' : (zs.getD k 0 == z) = false := by simpa using e1
            by_cases e2 : zs.getD k 0 = -z
            · have HF := Lib.hid (FF.out k g1 (.inr e2))
              rw [e2] at hd e1'
              have hzz : (-z == -z) = true := by simp
              clear FF SA SS e1 e2
              go_wp2
              go_quiet (fail)
              go_wp2
              go_ret
              exact ⟨by rw [HF.out]; rfl, below_drewN H4.out _⟩
            · have e2' : (zs.getD k 0 == -z) = false := by simpa using e2
              have HS := Lib.hid (SA.out k H3.out e1 e2)
              clear FF SA H3 e1 e2
              generalize zs.getD k 0 = y at *
              go_wp2
              go_quiet (fail)
              go_wp2
              go_roundw
              case rel => exact ⟨k + 1, by go_num, by omega, HS, below_drewN H4.out _⟩
              case measure => simp [intOf]; omega
        · have g1' : ¬ (k : Int) < (i : Int) := by omega
          have HS := Lib.hid (SS.out (by have := H3.out; rwa [show k = i by omega] at this))
          clear FF SA SS H3
          go_wp2
          go_roundw
          case rel => exact ⟨i + 1, by go_num, by omega, HS, H4⟩
          case measure => simp [intOf]; omega
    · have h1' : ¬ (i : Int) < (n : Int) := by omega
      have HE := Lib.hid (YY.out i (by omega) H1.out)
      go_wp2
      go_ret
      exact ⟨by rw [HE.out]; rfl, H2.out⟩

end Go.Proofs.YtoncpiaboceefaaDoor
