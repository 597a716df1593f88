/-
  READING MONEY, AS THE MODEL DOES: a text of money that opens with a minus.
-/
import Derived.Test.YtcganhhnkidddaaDoorRd
import Derived.Deep.QuietTactic
import Derived.BigQuiet
namespace Go.Proofs.YtcganhhnkidddaaDoor
open Go.RowKit
set_option linter.unusedVariables false

set_option maxHeartbeats 6000000 in
theorem srd_good_neg (s : ByteArray) (n P Q : Int) (h4 : 4 ≤ s.size) (h20 : s.size < 20) (w : World) (hw : 0 < (s.extract 0 (s.size - 3)).size) (h45 : (s.extract 0 (s.size - 3))[0].toNat = 45)
    (n0 : 0 ≤ n) (n1 : n ≤ 10000000000) (P0 : 0 ≤ P) (P1 : P < 10) (Q0 : 0 ≤ Q) (Q1 : Q < 10)
    (HN : Hid (∀ w, Calls Tryd.prog 22 #[.string ((s.extract 0 (s.size - 3)).extract 1 (s.size - 3))] w fun e w' => e = .returned (.tuple #[.int .i64 n, .bool true]) ∧ Below w.heap.size w w'))
    (k0 : 0 < (s.extract (s.size - 2) s.size).size) (k1 : 1 < (s.extract (s.size - 2) s.size).size)
    (eP : ((s.extract (s.size - 2) s.size)[0].toNat : Int) = 48 + P) (eQ : ((s.extract (s.size - 2) s.size)[1].toNat : Int) = 48 + Q)
    (HT : Hid (∀ w, Calls Tryd.prog 11 #[.int .i64 (-(100 * n + 10 * P + Q))] w fun e w' => e = .returned (.string s) ∧ Below w.heap.size w w')) :
    Calls Tryd.prog 10 #[.string s] w fun e w' => e = .returned (M (-(100 * n + 10 * P + Q)) 0) ∧ Below w.heap.size w w' := by
  have hd : (s.extract (s.size - 2) s.size).size = 2 := by simp; omega
  have wp : IntKind.u8.wrap (48 + P - 48) = P := by rw [show 48 + P - 48 = P by omega]; exact wrap8 _ (by omega)
  have wq : IntKind.u8.wrap (48 + Q - 48) = Q := by rw [show 48 + Q - 48 = Q by omega]; exact wrap8 _ (by omega)
  go_enter Tryd.func10, Tryd.ntmps10
  go_wp2_with fail
  refine (HN.out _).mono ?_
  rintro e w1 ⟨rfl, hb⟩
  generalize s.extract (s.size - 2) s.size = d at *
  go_wp2_with fail
  go_quiet (fail)
  go_wp2_with fail
  refine (HT.out _).mono ?_
  rintro e w2 ⟨rfl, hb2⟩
  have hb3 := bT (below_drewN hb nq) hb2
  obtain ⟨hc, hf⟩ := bcell hb3; have hz := hb3.size; simp at hz
  go_wp2_with fail
  refine bodyPost_ret (v := M (-(100 * n + 10 * P + Q)) 0) (by simp [results, Tryd.results10, go_sem, hc, M]) rfl ⟨rfl, ?_⟩
  exact ((bT (bA0 _ _) hb3).setCell (Nat.le_refl _) _).setCell (Nat.le_refl _) _

end Go.Proofs.YtcganhhnkidddaaDoor
