/-
  THE LAW 4: the walk.
-/
import Derived.Test.YtoobcodlgajieaaDoorKUae
import Derived.Shelf.Spec.TrailingZeros
import Derived.ChangeSame
import Derived.ChangeSlices
import Derived.ChangeArms
import Derived.Deep.Strs
import Derived.Deep.Slices
namespace Go.Proofs.YtoobcodlgajieaaDoor
open Go.RowKit
set_option linter.unusedVariables false

/-- The argument's box, and that nothing of the caller's has turned. -/
structure LA (w : World) (vars : Int) (sl : Option Addr) (n cap : Nat) (W : World) : Prop where
  bel : Below w.heap.size w W
  arg : W.heap[w.heap.size]? = some (.cells #[.int .i64 vars, .slice sl n cap] 45)
theorem LA.below {w : World} {vars : Int} {sl : Option Addr} {n cap : Nat} {W W' : World} (h : LA w vars sl n cap W) (hb : Below W.heap.size W W') : LA w vars sl n cap W' :=
  ⟨bT h.bel hb, (hb.block _ (Array.getElem?_eq_some_iff.1 h.arg).1).trans h.arg⟩
theorem LA.cells {w : World} {vars : Int} {sl : Option Addr} {n cap : Nat} {W : World} (h : LA w vars sl n cap W) : w.heap.size < W.heap.size ∧ W.cell? ⟨w.heap.size, 0, none⟩ = some (.int .i64 vars) ∧ W.cell? ⟨w.heap.size, 1, none⟩ = some (.slice sl n cap) := by
  have ha := h.arg
  exact ⟨(Array.getElem?_eq_some_iff.1 ha).1, by simp [World.cell?, ha], by simp [World.cell?, ha]⟩
/-- What the program answered. -/
structure LG (B b : Nat) (s : Option Addr) (zn k : Nat) (zf zc : Int) (xs : List Value) (W : World) : Prop where
  row : OwZ W B (.slice s zn k) zn xs
  box : BoxW W b (.slice s zn k) zf zc
theorem LG.below {B b : Nat} {s : Option Addr} {zn k : Nat} {zf zc : Int} {xs : List Value} {W W' : World} (h : LG B b s zn k zf zc xs W) (hb : Below W.heap.size W W') : LG B b s zn k zf zc xs W' := ⟨h.row.below hb, h.box.below hb⟩
/-- What the model answered, below block L. -/
structure LW (L b : Nat) (s : Option Addr) (zn k : Nat) (zf zc : Int) (xs : List Value) (W : World) : Prop where
  row : OwL W L (.slice s zn k) zn xs
  box : BoxW W b (.slice s zn k) zf zc
theorem LW.below {L b : Nat} {s : Option Addr} {zn k : Nat} {zf zc : Int} {xs : List Value} {W W' : World} (h : LW L b s zn k zf zc xs W) (hb : Below W.heap.size W W') : LW L b s zn k zf zc xs W' := ⟨h.row.below hb, h.box.below hb⟩
/-- The copies that were handed in. -/
structure LX (vars : Int) (n b4 C4 c1 : Nat) (cs : List LCl) (C5 d1 : Nat) (ds : List LCl) (c3 : Nat) (l3 : List Int) (W : World) : Prop where
  box : CnfAt W b4 vars (some ⟨c1, 0, none⟩) n n
  x0 : CnO C4 W c1 cs
  x1 : CnO C5 W d1 ds
  x2 : RowZ W c3 l3
theorem LX.below {vars : Int} {n b4 C4 c1 : Nat} {cs : List LCl} {C5 d1 : Nat} {ds : List LCl} {c3 : Nat} {l3 : List Int} {W W' : World} (h : LX vars n b4 C4 c1 cs C5 d1 ds c3 l3 W) (hb : Below W.heap.size W W') : LX vars n b4 C4 c1 cs C5 d1 ds c3 l3 W' := ⟨h.box.below hb, h.x0.below hb, h.x1.below hb, h.x2.below hb⟩

end Go.Proofs.YtoobcodlgajieaaDoor
