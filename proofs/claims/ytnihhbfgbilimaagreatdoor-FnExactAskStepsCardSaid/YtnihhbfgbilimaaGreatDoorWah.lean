/-
  HOW MANY STEPS: spec.SolveCount, impl.SolveCount; the law of SolveCount.
  THE LAW OF SOLVE: the walk.
-/
import Derived.Test.YtnihhbfgbilimaaGreatDoorUae
import Derived.Test.YtnihhbfgbilimaaGreatDoorWag
import Derived.Laws.Rows
import Derived.Laws.Tables
namespace Go.Proofs.YtnihhbfgbilimaaGreatDoor
open Go.RowKit
set_option linter.unusedVariables false


/-- What the program answered. -/
structure LGD (B b : Nat) (s : Option Addr) (tn k : Nat) (l : Option Addr) (ln j : Nat) (x st c : Int) (xs : List Value) (ms : List LCl) (W : World) : Prop where
  row : W.ownsRow B 2 1 (.slice s tn k) tn xs
  ol : OwC W B (.slice l ln j) ms
  box : BoxS W b x (.slice s tn k) (.slice l ln j) st c
section
variable {B b : Nat} {s : Option Addr} {tn k : Nat} {l : Option Addr} {ln j : Nat} {x st c : Int} {xs : List Value} {ms : List LCl} {W W' : World}
theorem LGD.below (h : LGD B b s tn k l ln j x st c xs ms W) (hb : Below W.heap.size W W') : LGD B b s tn k l ln j x st c xs ms W' := ⟨own_below h.row hb, h.ol.below hb, h.box.below hb⟩
/-- What the model answered, below block M. -/
structure LWD (M b : Nat) (s : Option Addr) (tn k : Nat) (l : Option Addr) (ln j : Nat) (x st c : Int) (xs : List Value) (ms : List LCl) (W : World) : Prop where
  own : ∃ B, W.ownsRow B 2 1 (.slice s tn k) tn xs ∧ OwC W B (.slice l ln j) ms
  lo : (∀ i, (Value.slice s tn k).ownBlock = some i → i < M) ∧ (∀ i, (Value.slice l ln j).ownBlock = some i → i < M) ∧ ∀ r ∈ ms, ∀ i, r.1.ownBlock = some i → i < M
  box : BoxS W b x (.slice s tn k) (.slice l ln j) st c
theorem LWD.below {M : Nat} (h : LWD M b s tn k l ln j x st c xs ms W) (hb : Below W.heap.size W W') : LWD M b s tn k l ln j x st c xs ms W' := by
  obtain ⟨B, h1, h2⟩ := h.own
  exact ⟨⟨B, own_below h1 hb, h2.below hb⟩, h.lo, h.box.below hb⟩
end
/-- The copy that was handed in. -/
structure LXD (vars : Int) (n b4 C4 c1 : Nat) (cs : List LCl) (W : World) : Prop where
  box : CnfAt W b4 vars (some ⟨c1, 0, none⟩) n n
  x0 : CnO C4 W c1 cs
theorem LXD.below {vars : Int} {n b4 C4 c1 : Nat} {cs : List LCl} {W W' : World} (h : LXD vars n b4 C4 c1 cs W) (hb : Below W.heap.size W W') : LXD vars n b4 C4 c1 cs W' := ⟨h.box.below hb, h.x0.below hb⟩

end Go.Proofs.YtnihhbfgbilimaaGreatDoor
