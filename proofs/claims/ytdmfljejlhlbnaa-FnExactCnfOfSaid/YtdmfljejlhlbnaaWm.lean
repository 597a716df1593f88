/-
  CLAUSES THAT GROW IN A BOX, as the model makes them; markCnf, heldCnf.
-/
import Derived.Test.YtdmfljejlhlbnaaWj
import Derived.Test.YtdmfljejlhlbnaaWl
namespace Go.Proofs.Ytdmfljejlhlbnaa
open Go.RowKit
set_option linter.unusedVariables false

/-- The clauses stand in the box bx; below wB nothing else has turned. -/
structure SpS (w wB : World) (bx : Nat) (nv : Int) (wq : World) (v : Value) (cs : List LCl) : Prop where
  h1 : w.heap.size ≤ bx
  h2 : bx < wB.heap.size
  box : wq.heap[bx]? = some (.cells #[.int .i64 nv, v] 45)
  own : OwC wq wB.heap.size v cs
  kp : Kp1 bx wB.heap.size wB wq
  bel : Below w.heap.size w wq
theorem SpS.lt {w wB wq : World} {bx : Nat} {nv : Int} {v : Value} {cs : List LCl} (h : SpS w wB bx nv wq v cs) : bx < wq.heap.size := (Array.getElem?_eq_some_iff.1 h.box).1
theorem SpS.le {w wB wq : World} {bx : Nat} {nv : Int} {v : Value} {cs : List LCl} (h : SpS w wB bx nv wq v cs) : wB.heap.size ≤ wq.heap.size := h.kp.1
theorem SpS.cell {w wB wq : World} {bx : Nat} {nv : Int} {v : Value} {cs : List LCl} (h : SpS w wB bx nv wq v cs) : wq.cell? ⟨bx, 0, none⟩ = some (.int .i64 nv) ∧ wq.cell? ⟨bx, 1, none⟩ = some v ∧ wq.frozen? ⟨bx, 1, none⟩ = false := by
  have := h.box
  refine ⟨?_, ?_, ?_⟩ <;> simp [World.cell?, World.frozen?, this]
theorem SpS.below {w wB wq wq' : World} {bx : Nat} {nv : Int} {v : Value} {cs : List LCl} (h : SpS w wB bx nv wq v cs) (hb : Below wq.heap.size wq wq') : SpS w wB bx nv wq' v cs :=
  ⟨h.h1, h.h2, (hb.block bx h.lt).trans h.box, h.own.below hb, h.kp.trans (Kp1.of (hb.mono h.le)), bT h.bel hb⟩
theorem SpS.drew {w wB wq : World} {bx : Nat} {nv : Int} {v : Value} {cs : List LCl} (h : SpS w wB bx nv wq v cs) : SpS w wB bx nv wq.drew v cs := h.below (Below.refl _ _).drew
/-- What stands below, but the box, stays. -/
theorem SpS.old {w wB wq : World} {bx : Nat} {nv : Int} {v : Value} {cs : List LCl} (h : SpS w wB bx nv wq v cs) {c : Nat} (hc : c < wB.heap.size) (hb : c ≠ bx) (o : Nat) : c < wq.heap.size ∧ wq.cell? ⟨c, o, none⟩ = wB.cell? ⟨c, o, none⟩ := ⟨Nat.lt_of_lt_of_le hc h.le, h.kp.cell hc hb⟩
theorem SpS.far {w wB wq wa w9 : World} {bx : Nat} {nv : Int} {v : Value} {cs : List LCl} (h : SpS w wB bx nv wq v cs) (hb : Below wq.heap.size wq wa) (hg : wa.grownBy w9 v.ownBlock) : w9.heap[bx]? = some (.cells #[.int .i64 nv, v] 45) := blk_kept h.own h.box (by decide) hb hg
/-- The world behind the append, before the store. -/
theorem SpS.mid {w wB wq wa w9 : World} {bx : Nat} {nv : Int} {v : Value} {cs : List LCl} (h : SpS w wB bx nv wq v cs) (hb : Below wq.heap.size wq wa) (hg : wa.grownBy w9 v.ownBlock) : bx < w9.heap.size ∧ w9.cell? ⟨bx, 1, none⟩ = some v ∧ w9.frozen? ⟨bx, 1, none⟩ = false := by
  have e := h.far hb hg
  refine ⟨(Array.getElem?_eq_some_iff.1 e).1, ?_, ?_⟩ <;> simp [World.cell?, World.frozen?, e]
theorem SpS.add {w wB wq wa w9 : World} {bx : Nat} {nv : Int} {v v9 : Value} {cs : List LCl} {r : LCl} (h : SpS w wB bx nv wq v cs) (hb : Below wq.heap.size wq wa) (hr : wa.ownsRow wB.heap.size 2 1 r.1 r.2.length (valsZ r.2)) (hf : ∀ j, r.1.ownBlock = some j → wq.heap.size ≤ j) (hg : wa.grownBy w9 v.ownBlock) (own9 : w9.ownsRow wB.heap.size 40 1 v9 (cs.length + 1) (hdC cs ++ [r.1])) : SpS w wB bx nv (w9.setCell ⟨bx, 1, none⟩ v9) v9 (cs ++ [r]) := by
  have hlo : ∀ j, v.ownBlock = some j → wB.heap.size ≤ j := fun j hj => (h.own.row.lt j hj).1
  have hs := h.le
  have hs2 := hb.size
  have hw := h.bel.size
  have b9 : Below wB.heap.size wa w9 := (Below.refl _ _).grown hg (by omega) hlo
  refine ⟨h.h1, h.h2, ?_, (h.own.new hb hr hf hg own9).set h.h2 _ _, ?_, ?_⟩
  · exact heap_setCell_same w9 bx 1 _ 45 v9 (h.far hb hg)
  · exact (((h.kp.trans (Kp1.of (hb.mono h.le))).trans (Kp1.of b9))).set 1 v9
  · exact (((bT h.bel hb).grown hg (by omega) (fun j hj => by have := hlo j hj; have := h.h1; have := h.h2; omega))).setCell h.h1 _
/-- Another block made since stays, too. -/
theorem SpS.blk {w wB wq wa w9 : World} {bx : Nat} {nv : Int} {v v9 : Value} {cs : List LCl} (h : SpS w wB bx nv wq v cs) (hb : Below wq.heap.size wq wa) (hg : wa.grownBy w9 v.ownBlock) {b : Nat} {us : Array Value} {t : TypeId} (hh : wq.heap[b]? = some (.cells us t)) (ht : t ≠ 40) (hne : b ≠ bx) : (w9.setCell ⟨bx, 1, none⟩ v9).heap[b]? = some (.cells us t) :=
  (Below.heap_setCell _ _ _ _ hne).trans (blk_kept h.own hh ht hb hg)
theorem SpS.v {w wB wq : World} {bx : Nat} {nv : Int} {v : Value} {cs : List LCl} (h : SpS w wB bx nv wq v cs) : ∃ sl cap, v = .slice sl cs.length cap := h.own.v

set_option maxRecDepth 100000 in
set_option maxHeartbeats 1000000 in
/-- markCnf. -/
theorem mkCn_any (B : Nat) (nv : Int) (v : Value) (cs : List LCl) (k : Int) (w : World) (hn : cs.length ≤ 100000000) (hr : ∀ r ∈ cs, r.2.length ≤ 1048576) (ht : totC cs ≤ 500000000) (k0 : 0 ≤ k) (k1 : k ≤ 1000) (hB : B ≤ w.heap.size) (h : OwC w B v cs) :
    Calls Try.prog 57 #[.agg #[.int .i64 nv, v], .int .i64 k] w fun e w' => e = .returned (.int .i64 (k + (totC cs : Int))) ∧ OwC w' B v (mkC k cs) ∧ Below B w w' := by
  have E := Lib.hid (mkL_any B v cs k (w.alloc (.cells #[.int .i64 nv, v] 45)) hn hr ht k0 k1 (by simp; omega) (h.below (bA0 _ _)))
  have B0 := Lib.hid ((bA0 w (.cells #[.int .i64 nv, v] 45)).mono hB)
  obtain ⟨sl, cap, rfl⟩ := h.v
  have ht0 : (0 : Int) ≤ (totC cs : Int) := by omega
  clear h hr
  generalize totC cs = t at *
  generalize cs.length = n at *
  go_enter Try.func57, Try.ntmps57
  go_wp2_with fail
  refine E.out.mono ?_
  rintro e w1 ⟨rfl, o1, b1⟩
  have O1 := Lib.hid o1
  have B1 := Lib.hid (B0.out.trans b1)
  clear o1 b1 E
  go_wp2
  go_ret
  exact ⟨rfl, O1.out, B1.out⟩
set_option maxRecDepth 100000 in
set_option maxHeartbeats 1000000 in
/-- heldCnf. -/
theorem hdCn_any (B : Nat) (nv : Int) (v : Value) (cs : List LCl) (k : Int) (w : World) (hn : cs.length ≤ 100000000) (hr : ∀ r ∈ cs, r.2.length ≤ 1048576) (ht : totC cs ≤ 500000000) (k0 : 0 ≤ k) (k1 : k ≤ 1000) (h : OwC w B v (mkC k cs)) :
    Calls Try.prog 58 #[.agg #[.int .i64 nv, v], .int .i64 k] w fun e w' => e = .returned (.int .i64 (k + (totC cs : Int))) ∧ Below w.heap.size w w' := by
  have E := Lib.hid (hdL_any B v cs k (w.alloc (.cells #[.int .i64 nv, v] 45)) hn hr ht k0 k1 (h.below (bA0 _ _)))
  have B0 := Lib.hid (bA0 w (.cells #[.int .i64 nv, v] 45))
  obtain ⟨sl, cap, rfl⟩ := h.v
  have ht0 : ¬ (k + (totC cs : Int)) < 0 := by omega
  clear h hr
  generalize hT : k + (totC cs : Int) = t at *
  clear hT
  generalize (mkC k cs).length = n at *
  go_enter Try.func58, Try.ntmps58
  go_wp2_with fail
  refine E.out.mono ?_
  rintro e w1 ⟨rfl, rfl⟩
  clear E
  go_wp2
  go_ret
  exact ⟨rfl, B0.out⟩
end Go.Proofs.Ytdmfljejlhlbnaa
