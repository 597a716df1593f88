/-
  A LEMMA THAT FOLLOWS: prover.conflict, proverOf.
-/
import Derived.Test.YtnihhbfgbilimaaGreatDoorVac
import Derived.Lib.TrailingZeros
import Derived.RegionTactic
import Derived.ChangeAlike
import Derived.Deep.LoopGhost
import Derived.Deep.RegionWith
import Derived.Deep.RegionLaw
import Derived.Deep.DeepCutAuto
import Derived.Shelf.Spec.TrailingZeros
import Derived.Laws.Rows
import Derived.Laws.Tables
namespace Go.Proofs.YtnihhbfgbilimaaGreatDoor
open Go.RowKit
set_option linter.unusedVariables false
set_option linter.unusedSimpArgs false

theorem Only.setRow {g : Nat} (X : World) (cells : Array Value) : Only g X (X.setRow g cells) := ⟨rfl, rfl, rfl, by simp, fun k _ hk => setRow_other _ _ _ _ hk⟩

end Go.Proofs.YtnihhbfgbilimaaGreatDoor
