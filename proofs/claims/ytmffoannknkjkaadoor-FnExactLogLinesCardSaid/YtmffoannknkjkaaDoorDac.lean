/-
  WHAT THE LAWS OF DISKS KEEP WHILE THEY GO: what stands where, behind each call.
  THE LAW FnExactDiskCut at every disk and every size.
-/
import Derived.Test.YtmffoannknkjkaaDoorDab
namespace Go.Proofs.YtmffoannknkjkaaDoor
open Go.RowKit
set_option linter.unusedVariables false

theorem OwnS.drew {w : World} {B : Nat} {v : Value} {ss : List ByteArray} (h : OwnS w B v ss) : OwnS w.drew B v ss := h

/-- The blocks of what is told (W), handed in (X) and answered (G): each behind the one ahead of it. -/
structure Sep (b0 bW bX bG : Nat) (vW vX vG : Value) : Prop where
  w : ∀ k, vW.ownBlock = some k → b0 < k ∧ k < bW
  x : ∀ k, vX.ownBlock = some k → bW < k ∧ k < bX
  g : ∀ k, vG.ownBlock = some k → bX < k ∧ k < bG
  o1 : b0 < bW
  o2 : bW < bX
  o3 : bX < bG
structure St (w : World) (s : ByteArray) (va : Value) (bW bX bG : Nat) (rs : ByteArray) (vW vX vG : Value) (rl xl gl : List ByteArray) (W : World) : Prop where
  bel : Below w.heap.size w W
  box : DAt 24 W w.heap.size s va
  dW : DAt 27 W bW rs vW
  oW : OwnS W w.heap.size vW rl
  dX : DAt 27 W bX s vX
  oX : OwnS W w.heap.size vX xl
  dG : DAt 27 W bG rs vG
  oG : OwnS W w.heap.size vG gl
section
variable {w : World} {s : ByteArray} {va : Value} {bW bX bG : Nat} {rs : ByteArray} {vW vX vG : Value} {rl xl gl : List ByteArray} {W W' : World}
theorem St.below (h : St w s va bW bX bG rs vW vX vG rl xl gl W) (hb : Below W.heap.size W W') : St w s va bW bX bG rs vW vX vG rl xl gl W' :=
  ⟨bT h.bel hb, h.box.below hb, h.dW.below hb, h.oW.below hb, h.dX.below hb, h.oX.below hb, h.dG.below hb, h.oG.below hb⟩
theorem St.drew (h : St w s va bW bX bG rs vW vX vG rl xl gl W) : St w s va bW bX bG rs vW vX vG rl xl gl W.drew :=
  ⟨h.bel.drew, h.box, h.dW, h.oW, h.dX, h.oX, h.dG, h.oG⟩
theorem St.facts (h : St w s va bW bX bG rs vW vX vG rl xl gl W) : W.cell? ⟨w.heap.size, 0, none⟩ = some (.string s) ∧ W.cell? ⟨w.heap.size, 1, none⟩ = some va ∧ W.cell? ⟨bW, 0, none⟩ = some (.string rs) ∧ W.cell? ⟨bW, 1, none⟩ = some vW ∧ W.cell? ⟨bX, 0, none⟩ = some (.string s) ∧ W.cell? ⟨bX, 1, none⟩ = some vX ∧ W.cell? ⟨bG, 0, none⟩ = some (.string rs) ∧ W.cell? ⟨bG, 1, none⟩ = some vG :=
  ⟨h.box.cells.1, h.box.cells.2, h.dW.cells.1, h.dW.cells.2, h.dX.cells.1, h.dX.cells.2, h.dG.cells.1, h.dG.cells.2⟩
theorem St.markX (h : St w s va bW bX bG rs vW vX vG rl xl gl W) (hs : Sep w.heap.size bW bX bG vW vX vG) {ml : List ByteArray} (ho : OwnS W' w.heap.size vX ml) (hg : W.grownBy W' vX.ownBlock) : St w s va bW bX bG rs vW vX vG rl ml gl W' := by
  have x := hs.x
  refine ⟨h.bel.grown hg h.bel.size (fun k hk => ?_), h.box.grown hg (fun e => ?_), h.dW.grown hg (fun e => ?_), h.oW.grown hg (fun k hk e => ?_), h.dX.grown hg (fun e => ?_), ho, h.dG.grown hg (fun e => ?_), h.oG.grown hg (fun k hk e => ?_)⟩
  · have := x k hk; have := hs.o1; omega
  · have := x _ e; have := hs.o1; omega
  · have := x _ e; omega
  · have := x k hk; have := hs.w k e; omega
  · have := x _ e; omega
  · have := x _ e; have := hs.o3; omega
  · have := x k hk; have := hs.g k e; omega
theorem St.markG (h : St w s va bW bX bG rs vW vX vG rl xl gl W) (hs : Sep w.heap.size bW bX bG vW vX vG) {ml : List ByteArray} (ho : OwnS W' w.heap.size vG ml) (hg : W.grownBy W' vG.ownBlock) : St w s va bW bX bG rs vW vX vG rl xl ml W' := by
  have x := hs.g
  refine ⟨h.bel.grown hg h.bel.size (fun k hk => ?_), h.box.grown hg (fun e => ?_), h.dW.grown hg (fun e => ?_), h.oW.grown hg (fun k hk e => ?_), h.dX.grown hg (fun e => ?_), h.oX.grown hg (fun k hk e => ?_), h.dG.grown hg (fun e => ?_), ho⟩
  · have := x k hk; have := hs.o1; have := hs.o2; omega
  · have := x _ e; have := hs.o1; have := hs.o2; omega
  · have := x _ e; have := hs.o2; omega
  · have := x k hk; have := hs.w k e; have := hs.o2; omega
  · have := x _ e; omega
  · have := x k hk; have := hs.x k e; omega
  · have := x _ e; omega
end
theorem OwnS.lt {w : World} {B : Nat} {v : Value} {ss : List ByteArray} (h : OwnS w B v ss) {k : Nat} (hk : v.ownBlock = some k) : B ≤ k ∧ k < w.heap.size := World.ownsRow.lt h k hk

end Go.Proofs.YtmffoannknkjkaaDoor
namespace Go.Proofs.YtmffoannknkjkaaDoor
open Go.RowKit
set_option linter.unusedVariables false

theorem dT_size {s : ByteArray} {ss : List ByteArray} (h : dR s ss = true) : (dT s ss).size = s.size + tot ss := by
  unfold dT
  rw [if_pos h, ByteArray.size_append, flT_size]

end Go.Proofs.YtmffoannknkjkaaDoor
