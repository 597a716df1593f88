/-
  strings.CutPrefix at the first line's words.
-/
import Derived.Test.YtoncpiaboceefaaDoorGy
namespace Go.Proofs.YtoncpiaboceefaaDoor
open Go.RowKit
set_option linter.unusedVariables false
set_option maxRecDepth 100000 in
set_option maxHeartbeats 2000000 in
theorem hp_any (s : ByteArray) (w : World) (hs : s.size ≤ 1000000) :
    Calls Tryd.prog 176 #[.string s, .string { data := #[112, 32, 99, 110, 102, 32] }] w fun e w' => e = .returned (.bool (decide (6 ≤ s.size) && decide (s.data.toList.take 6 = P6))) ∧ w' = w := by
  by_cases h6 : 6 ≤ s.size
  · have h6' : (6 : Int) ≤ (s.size : Int) := by omega
    rw [decide_eq_true h6, Bool.true_and]
    go_enter Tryd.func176, Tryd.ntmps176
    go_wp2_with fail
    go_ret
    refine ⟨?_, rfl⟩
    show Ending.returned (.bool ((s.extract 0 6).toList == P6)) = _
    rw [Go.ByteArray.toList_eq, Lib.extract_data, List.drop_zero]
    by_cases e : s.data.toList.take 6 = P6
    · simp [e]
    · simp [e]
  · have h6' : ¬ (6 : Int) ≤ (s.size : Int) := by omega
    rw [decide_eq_false h6, Bool.false_and]
    go_enter Tryd.func176, Tryd.ntmps176
    go_wp2_with fail
    go_ret
    exact ⟨rfl, rfl⟩

/-- The two words stand ahead. -/
def preP (s : ByteArray) : Bool := decide (6 ≤ s.size) && decide (s.data.toList.take 6 = P6)
theorem preP_yes {s : ByteArray} (h : preP s = true) : 6 ≤ s.size ∧ s.data.toList = P6 ++ (s.extract 6 s.size).data.toList := by
  unfold preP at h
  simp only [Bool.and_eq_true, decide_eq_true_eq] at h
  refine ⟨h.1, ?_⟩
  rw [Lib.extract_data, List.take_of_length_le (by simp), ← h.2, List.take_append_drop]
theorem preP_no {s : ByteArray} (h : preP s = false) : ∀ u, s.data.toList ≠ P6 ++ u := by
  intro u e
  have hl := congrArg List.length e
  simp [P6] at hl
  have h6 : 6 ≤ s.size := by omega
  have : preP s = true := by
    unfold preP
    rw [decide_eq_true h6, Bool.true_and, e]
    simp [P6]
  rw [h] at this
  cases this
set_option maxRecDepth 100000 in
set_option maxHeartbeats 2000000 in
theorem cp_any (s : ByteArray) (w : World) (hs : s.size ≤ 1000000) :
    Calls Tryd.prog 150 #[.string s, .string { data := #[112, 32, 99, 110, 102, 32] }] w fun e w' => e = .returned (.tuple #[.string (if preP s then s.extract 6 s.size else s), .bool (preP s)]) ∧ w' = w := by
  have HP : Hid (Calls Tryd.prog 176 #[.string s, .string { data := #[112, 32, 99, 110, 102, 32] }] w fun e w' => e = .returned (.bool (preP s)) ∧ w' = w) := hp_any s w hs
  have H6 : Hid (preP s = true → 6 ≤ s.size) := fun h => (preP_yes h).1
  generalize preP s = pp at *
  cases pp with
  | true =>
    have h6 := H6.out rfl
    have h6' : (6 : Int) ≤ (s.size : Int) := by omega
    go_enter Tryd.func150, Tryd.ntmps150
    go_wp2_with (go_at_call 176; refine HP.out.mono ?_; rintro e w2 ⟨rfl, rfl⟩)
    exact bodyPost_ret (v := .tuple #[.string (s.extract 6 s.size), .bool true]) (by simp [results, Tryd.results150, go_sem]) rfl ⟨rfl, rfl⟩
  | false =>
    go_enter Tryd.func150, Tryd.ntmps150
    go_wp2_with (go_at_call 176; refine HP.out.mono ?_; rintro e w2 ⟨rfl, rfl⟩)
    exact bodyPost_ret (v := .tuple #[.string s, .bool false]) (by simp [results, Tryd.results150, go_sem]) rfl ⟨rfl, rfl⟩
set_option maxRecDepth 100000 in
set_option maxHeartbeats 2000000 in
theorem cutp_any (s : ByteArray) (w : World) (hs : s.size ≤ 1000000) :
    Calls Tryd.prog 121 #[.string s, .string { data := #[112, 32, 99, 110, 102, 32] }] w fun e w' => e = .returned (.tuple #[.string (if preP s then s.extract 6 s.size else s), .bool (preP s)]) ∧ w' = w := by
  have HP := Lib.hid (cp_any s w hs)
  generalize preP s = pp at *
  generalize (if pp = true then s.extract 6 s.size else s) = u at *
  go_enter Tryd.func121, Tryd.ntmps121
  go_wp2_with (go_at_call 150; refine HP.out.mono ?_; rintro e w2 ⟨rfl, rfl⟩)
  exact bodyPost_ret (v := .tuple #[.string u, .bool pp]) (by simp [results, Tryd.results121, go_sem]) rfl ⟨rfl, rfl⟩

end Go.Proofs.YtoncpiaboceefaaDoor
