/-
  READING MONEY, AS THE MODEL DOES: a text of no money that does not open with a minus.
-/
import Derived.Test.YtcganhhnkidddaaDoorRd
import Derived.Deep.QuietTactic
import Derived.BigQuiet
namespace Go.Proofs.YtcganhhnkidddaaDoor
open Go.RowKit
set_option linter.unusedVariables false

set_option maxHeartbeats 6000000 in
theorem srd_bad_pos (s : ByteArray) (h4 : 4 ≤ s.size) (h20 : s.size < 20) (w : World) (hg : ¬ goodT s.data.toList) (hw : 0 < (s.extract 0 (s.size - 3)).size) (h45 : ¬ (s.extract 0 (s.size - 3))[0].toNat = 45) :
    Calls Tryd.prog 10 #[.string s] w fun e w' => e = .returned (M 0 3) ∧ Below w.heap.size w w' := by
  have HB : Hid (∀ v, ((⟨(mtextOf v).toArray⟩ : ByteArray).toList == s.toList) = false) := fun v => told_bad s (by omega) hg v
  have HN : Hid (∀ w, Calls Tryd.prog 22 #[.string (s.extract 0 (s.size - 3))] w fun e w' => NumPost (s.extract 0 (s.size - 3)).data.toList w e w') := fun w => num_any _ (by simp; omega) w
  have hd : (s.extract (s.size - 2) s.size).size = 2 := by simp; omega
  have h45b : (((s.extract 0 (s.size - 3))[0].toNat : Int) == 45) = false := by rw [beq_eq_false_iff_ne]; omega
  go_enter Tryd.func10, Tryd.ntmps10
  go_wp2_with fail
  refine (HN.out _).mono ?_
  rintro e w1 ⟨n, b, rfl, ⟨n0, n1, -⟩, hb⟩
  obtain ⟨hc, hf⟩ := bcell hb; have hz := hb.size; simp at hz; clear HN hg
  generalize s.extract (s.size - 2) s.size = d at *
  cases b
  · go_wp2_with fail
    refine bodyPost_ret (v := M 0 3) (by simp [results, Tryd.results10, go_sem, hc, M]) rfl ⟨rfl, ?_⟩
    exact ((bT (bA0 _ _) hb).setCell (Nat.le_refl _) _).setCell (Nat.le_refl _) _
  · by_cases c0 : 0 ≤ n
    · have p0 : 0 < d.size := by omega
      have p1 : 1 < d.size := by omega
      by_cases c1 : 48 ≤ (d[0].toNat : Int)
      · by_cases c2 : (d[0].toNat : Int) ≤ 57
        · by_cases c3 : 48 ≤ (d[1].toNat : Int)
          · by_cases c4 : (d[1].toNat : Int) ≤ 57
            · clear hc hf hz
              have wp : IntKind.u8.wrap ((d[0].toNat : Int) - 48) = (d[0].toNat : Int) - 48 := wrap8 _ (by omega)
              have wq : IntKind.u8.wrap ((d[1].toNat : Int) - 48) = (d[1].toNat : Int) - 48 := wrap8 _ (by omega)
              go_wp2_with fail
              go_quiet (fail)
              go_wp2_with fail
              have hq := HB.out (100 * n + 10 * ((d[0].toNat : Int) - 48) + ((d[1].toNat : Int) - 48))
              refine (smt_any _ _).mono ?_
              rintro e w2 ⟨rfl, hb2⟩
              generalize (⟨(mtextOf (100 * n + 10 * ((d[0].toNat : Int) - 48) + ((d[1].toNat : Int) - 48))).toArray⟩ : ByteArray) = x at *
              have hb3 := bT (below_drewN hb nq) hb2
              obtain ⟨hc, hf⟩ := bcell hb3; have hz := hb3.size; simp at hz
              go_wp2_with fail
              refine bodyPost_ret (v := M 0 3) (by simp [results, Tryd.results10, go_sem, hc, M]) rfl ⟨rfl, ?_⟩
              exact ((bT (bA0 _ _) hb3).setCell (Nat.le_refl _) _).setCell (Nat.le_refl _) _
            · go_wp2_with fail
              refine bodyPost_ret (v := M 0 3) (by simp [results, Tryd.results10, go_sem, hc, M]) rfl ⟨rfl, ?_⟩
              exact ((bT (bA0 _ _) hb).setCell (Nat.le_refl _) _).setCell (Nat.le_refl _) _
          · go_wp2_with fail
            refine bodyPost_ret (v := M 0 3) (by simp [results, Tryd.results10, go_sem, hc, M]) rfl ⟨rfl, ?_⟩
            exact ((bT (bA0 _ _) hb).setCell (Nat.le_refl _) _).setCell (Nat.le_refl _) _
        · go_wp2_with fail
          refine bodyPost_ret (v := M 0 3) (by simp [results, Tryd.results10, go_sem, hc, M]) rfl ⟨rfl, ?_⟩
          exact ((bT (bA0 _ _) hb).setCell (Nat.le_refl _) _).setCell (Nat.le_refl _) _
      · go_wp2_with fail
        refine bodyPost_ret (v := M 0 3) (by simp [results, Tryd.results10, go_sem, hc, M]) rfl ⟨rfl, ?_⟩
        exact ((bT (bA0 _ _) hb).setCell (Nat.le_refl _) _).setCell (Nat.le_refl _) _
    · go_wp2_with fail
      refine bodyPost_ret (v := M 0 3) (by simp [results, Tryd.results10, go_sem, hc, M]) rfl ⟨rfl, ?_⟩
      exact ((bT (bA0 _ _) hb).setCell (Nat.le_refl _) _).setCell (Nat.le_refl _) _

end Go.Proofs.YtcganhhnkidddaaDoor
