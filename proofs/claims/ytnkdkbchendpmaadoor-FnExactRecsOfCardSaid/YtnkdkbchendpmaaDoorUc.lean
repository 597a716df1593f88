/-
  TWO ROWS OF THE SAME NUMBERS.
-/
import Derived.Test.YtnkdkbchendpmaaDoorUb
import Derived.BigQuiet
namespace Go.Proofs.YtnkdkbchendpmaaDoor
open Go.RowKit
set_option linter.unusedVariables false

set_option maxRecDepth 100000 in
set_option maxHeartbeats 1000000 in
theorem same_nil (sl sl' : Option Addr) (cap cap' : Nat) (w : World) :
    Calls Tryd.prog 13 #[.slice sl 0 cap, .slice sl' 0 cap'] w fun e w' => e = .returned (.bool true) ∧ Below w.heap.size w w' := by
  go_enter Tryd.func13, Tryd.ntmps13
  go_wp2
  refine wp_loop_rounds 1 ?_
  rw [rounds_succ]
  go_wp2
  go_ret
  exact ⟨rfl, Below.refl _ _⟩
set_option maxRecDepth 100000 in
set_option maxHeartbeats 1000000 in
theorem same_some (c o cap c' o' cap' : Nat) (zs : List Int) (w : World) (hn : zs.length ≤ 60) (hz : IntsAt w c o zs) (hz' : IntsAt w c' o' zs) :
    Calls Tryd.prog 13 #[.slice (some ⟨c, o, none⟩) zs.length cap, .slice (some ⟨c', o', none⟩) zs.length cap'] w fun e w' => e = .returned (.bool true) ∧ Below w.heap.size w w' := by
  have C1 := Lib.hid hz
  have C2 := Lib.hid hz'
  clear hz hz'
  generalize hN : zs.length = n at *
  have HN := Lib.hid hN
  clear hN
  go_enter Tryd.func13, Tryd.ntmps13
  go_wp2
  go_loopw [5] (fun i wr => ∃ k : Nat, i = .int .i64 k ∧ k ≤ n ∧ Hid (Below w.heap.size w wr)) (fun i _ => n - (intOf i).toNat)
  case atStart => exact ⟨0, rfl, by omega, Below.refl _ _⟩
  case round =>
    obtain ⟨k, rfl, hk, H3⟩ := hrel
    by_cases h : k < n
    · have h' : (k : Int) < (n : Int) := by omega
      have h0 : (0 : Int) ≤ (k : Int) := by omega
      have d1 := (H3.out.cell C1.out.1).trans (C1.out.2 k (by rw [HN.out]; exact h))
      have d2 := (H3.out.cell C2.out.1).trans (C2.out.2 k (by rw [HN.out]; exact h))
      generalize zs.getD k 0 = z at *
      go_wp2_with fail
      go_quiet (fail)
      go_wp2
      go_roundw
      case rel => exact ⟨k + 1, by go_num, by omega, Go.below_drewN H3.out _⟩
      case measure => simp [intOf]; omega
    · have h' : ¬ (k : Int) < (n : Int) := by omega
      go_wp2
      go_ret
      exact ⟨rfl, H3.out⟩
theorem same_any (sl sl' : Option Addr) (cap cap' : Nat) (zs : List Int) (w : World) (hn : zs.length ≤ 60) (hz : Ints w sl zs) (hz' : Ints w sl' zs) :
    Calls Tryd.prog 13 #[.slice sl zs.length cap, .slice sl' zs.length cap'] w fun e w' => e = .returned (.bool true) ∧ Below w.heap.size w w' := by
  rcases hz with rfl | ⟨c, o, rfl, h⟩
  · exact same_nil sl sl' cap cap' w
  · rcases hz' with rfl | ⟨c', o', rfl, h'⟩
    · exact same_nil _ sl' cap cap' w
    · exact same_some c o cap c' o' cap' zs w hn h h'

/-- Record i of a list. -/
theorem RecsIn.at {B : Nat} {w : World} {v : Value} {rs : List (Int × Value × List Int)} (h : RecsIn B w v rs) (i : Nat) (hi : i < rs.length) :
    ∃ g cap k sl2 cap2 zs, v = .slice (some ⟨g, 0, none⟩) rs.length cap ∧ g < w.heap.size ∧ (bare rs)[i]? = some (k, zs) ∧ w.cell? ⟨g, i * 2, none⟩ = some (.int .i64 k) ∧ w.cell? ⟨g, i * 2 + 1, none⟩ = some (.slice sl2 zs.length cap2) ∧ Ints w sl2 zs ∧ recR k zs = true := by
  obtain ⟨hu, hr⟩ := h.each rs[i] (List.getElem_mem hi)
  obtain ⟨sl2, cap2, e, hI⟩ := own_ints hu
  rcases h.row.2 with ⟨_, h0⟩ | ⟨g, cap, cur, rfl, hb, hg, _⟩
  · omega
  · have hc : ∀ l : List (Int × Value × List Int), ∀ i (hi : i < l.length), (recCells l)[i * 2]? = some (.int .i64 l[i].1) ∧ (recCells l)[i * 2 + 1]? = some l[i].2.1 := by
      intro l
      induction l with
      | nil => intro i hi; simp at hi
      | cons a r ih =>
        intro i hi
        cases i with
        | zero => simp [recCells]
        | succ i =>
          have := ih i (by simpa using hi)
          rw [show (i + 1) * 2 = i * 2 + 2 by omega, show i * 2 + 2 + 1 = (i * 2 + 1) + 2 by omega]
          simpa [recCells] using this
    have hcc := hc rs i hi
    refine ⟨g, cap, rs[i].1, sl2, cap2, rs[i].2.2, rfl, (Array.getElem?_eq_some_iff.1 hg).1, ?_, ?_, ?_, hI, hr⟩
    · simp [bare, hi]
    · have := World.ownsRow.cellAt h.row (i * 2) (by omega)
      rw [this, hcc.1]
    · have := World.ownsRow.cellAt h.row (i * 2 + 1) (by omega)
      rw [this, hcc.2, e]

end Go.Proofs.YtnkdkbchendpmaaDoor
