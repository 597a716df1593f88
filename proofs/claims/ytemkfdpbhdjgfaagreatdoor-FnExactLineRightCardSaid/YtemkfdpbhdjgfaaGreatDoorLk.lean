/-
  WHAT IS ASKED OF A COMMAND, OF NUMBERS, OF AN ERROR: takes, slices.ContainsFunc, errors.Is at a sentinel.
-/
import Derived.Test.YtemkfdpbhdjgfaaGreatDoorLj
import Derived.LaidEql
import Derived.Stop.Asserts
import Derived.RowKitTokens
namespace Go.Proofs.YtemkfdpbhdjgfaaGreatDoor
open Go.RowKit
set_option linter.unusedVariables false

/-- May so many numbers stand there? -/
def tkB (n : Int) (mo : Bool) (c : Int) : Bool := (c == n) || (mo && decide (n < c))
set_option maxRecDepth 100000 in
set_option maxHeartbeats 1000000 in
/-- (command).takes. -/
theorem tak_any (n : Int) (mo op ch : Bool) (fv : Value) (c : Int) (w : World) :
    Calls Tryz.prog 13 #[.agg #[.int .i64 n, .bool mo, .bool op, .bool ch, fv], .int .i64 c] w fun e w' => e = .returned (.bool (tkB n mo c)) ∧ Below w.heap.size w w' := by
  have B0 := Lib.hid (bA0 w (.cells #[.int .i64 n, .bool mo, .bool op, .bool ch, fv] 37))
  by_cases h : c = n
  · have HF : tkB n mo c = true := by unfold tkB; simp [h]
    rw [HF]
    have h' : (c == n) = true := by simpa using h
    clear HF h
    go_enter Tryz.func13, Tryz.ntmps13
    go_wp2
    go_ret
    exact ⟨rfl, B0.out⟩
  have h' : (c == n) = false := by simpa using h
  cases mo
  · have HF : tkB n false c = false := by unfold tkB; simp [h]
    rw [HF]
    clear HF h
    go_enter Tryz.func13, Tryz.ntmps13
    go_wp2
    go_ret
    exact ⟨rfl, B0.out⟩
  have HF := Lib.hid (show tkB n true c = decide (n < c) by unfold tkB; rw [h']; simp)
  rw [HF.out]
  clear h
  go_enter Tryz.func13, Tryz.ntmps13
  go_wp2
  go_ret
  exact ⟨rfl, B0.out⟩

abbrev TG : Value := .func (.func 19) #[] #[]
set_option maxHeartbeats 400000 in
theorem tgr_any (n : Int) (w : World) : Calls Tryz.prog 19 #[.int .i64 n] w fun e w' => e = .returned (.bool (decide ((1000000000000 : Int) < n))) ∧ w' = w := by
  go_enter Tryz.func19, Tryz.ntmps19
  go_wp2
  go_ret
  exact ⟨rfl, rfl⟩
/-- Not too great. -/
def okM (n : Int) : Bool := decide (n ≤ 1000000000000)
set_option maxRecDepth 100000 in
set_option maxHeartbeats 2000000 in
/-- slices.IndexFunc. -/
theorem ixg_any (sl : Option Addr) (cap : Nat) (zs : List Int) (w : World) (hn : zs.length ≤ 1048576) (hz : Ints w sl zs) :
    Calls Tryz.prog 31 #[.slice sl zs.length cap, TG] w fun e w' => ∃ r : Int, e = .returned (.int .i64 r) ∧ (zs.all okM = decide (r < 0)) ∧ Below w.heap.size w w' := by
  have HR := Lib.hid hz
  have F0 := Lib.hid (show ∀ (k : Nat) (x : Int), zs[k]? = some x → okM x = false → zs.all okM = false from fun k x h hn => by obtain ⟨h1, h2⟩ := List.getElem?_eq_some_iff.1 h; exact all_not okM zs k h1 (by rw [h2]; exact hn))
  have F1 := Lib.hid (show (zs.take zs.length).all okM = true → zs.all okM = true by rw [List.take_length]; exact id)
  clear hz
  generalize zs.all okM = r0 at *
  generalize hN : zs.length = n at *
  have HN := Lib.hid hN
  clear hN
  go_enter Tryz.func31, Tryz.ntmps31
  go_wp2
  go_loopw [8] (fun i wr => ∃ (k : Nat), i = .int .i64 k ∧ k ≤ n ∧ Hid ((zs.take k).all okM = true) ∧ Hid (Below w.heap.size w wr)) (fun i _ => n - (intOf i).toNat)
  case atStart => exact ⟨0, rfl, Nat.zero_le _, rfl, Below.refl _ _⟩
  case round =>
    obtain ⟨k, rfl, hk, HA, HB⟩ := hrel
    have hk0 : (0 : Int) ≤ (k : Int) := by omega
    by_cases g1 : k < n
    · have g1' : (k : Int) < (n : Int) := by omega
      have hlt : k < zs.length := by rw [HN.out]; exact g1
      obtain ⟨c, o, rfl, ZI⟩ : ∃ c o, sl = some ⟨c, o, none⟩ ∧ IntsAt w c o zs := by
        rcases HR.out with e | h
        · rw [e] at hlt; simp at hlt
        · exact h
      have hc := (HB.out.cell (p := ⟨c, o + k, none⟩) ZI.1).trans (ZI.2 k hlt)
      have GD : zs.getD k 0 = zs[k] := by simp [hlt]
      rw [GD] at hc
      have YY := Lib.hid (show okM zs[k] = true → (zs.take (k + 1)).all okM = true from fun e1 => take_all okM zs k hlt HA.out e1)
      have NN := Lib.hid (show okM zs[k] = false → r0 = false from fun h => F0.out k _ (List.getElem?_eq_getElem hlt) h)
      have E1 := Lib.hid (tgr_any zs[k] wr)
      clear ZI GD
      generalize zs[k] = z at *
      clear hlt
      by_cases hb : (1000000000000 : Int) < z
      · have HF := NN.out (by unfold okM; simpa using hb)
        subst HF
        rw [decide_eq_true hb] at E1
        clear YY NN HA F0 F1
        go_wp2_with (go_at_call 19; refine E1.out.mono ?_; rintro e w1 ⟨rfl, rfl⟩)
        go_ret
        exact ⟨(k : Int), rfl, by simp, HB.out⟩
      · have NA := Lib.hid (YY.out (by unfold okM; simp; omega))
        rw [decide_eq_false hb] at E1
        clear YY NN HA
        go_wp2_with (go_at_call 19; refine E1.out.mono ?_; rintro e w1 ⟨rfl, rfl⟩)
        go_roundw
        case rel => exact ⟨k + 1, by go_num, by omega, NA, HB⟩
        case measure => simp [intOf]; omega
    · have g1' : ¬ (k : Int) < (n : Int) := by omega
      have e : k = n := by omega
      subst e
      have HF := F1.out HA.out
      subst HF
      clear HA F0 F1
      go_wp2
      go_ret
      exact ⟨-1, rfl, by first | omega | decide, HB.out⟩
set_option maxHeartbeats 400000 in
/-- slices.ContainsFunc. -/
theorem cog_any (sl : Option Addr) (cap : Nat) (zs : List Int) (w : World) (hn : zs.length ≤ 1048576) (hz : Ints w sl zs) :
    Calls Tryz.prog 20 #[.slice sl zs.length cap, TG] w fun e w' => e = .returned (.bool (!(zs.all okM))) ∧ Below w.heap.size w w' := by
  have E := Lib.hid (ixg_any sl cap zs w hn hz)
  clear hz
  generalize zs.all okM = b at *
  generalize zs.length = n at *
  go_enter Tryz.func20, Tryz.ntmps20
  go_wp2_with fail
  refine E.out.mono ?_
  rintro e w1 ⟨r, rfl, hr, b1⟩
  have B1 := Lib.hid b1
  have HR := Lib.hid hr
  clear b1 hr E
  by_cases h0 : r < 0
  · have h0' : ¬ (0 : Int) ≤ r := by omega
    have R := Lib.hid (show b = true by rw [HR.out]; simpa using h0)
    clear HR
    go_wp2
    go_ret
    exact ⟨by rw [R.out]; simp; omega, B1.out⟩
  · have h0' : (0 : Int) ≤ r := by omega
    have R := Lib.hid (show b = false by rw [HR.out]; simpa using h0)
    clear HR
    go_wp2
    go_ret
    exact ⟨by rw [R.out]; simp, B1.out⟩

end Go.Proofs.YtemkfdpbhdjgfaaGreatDoor
