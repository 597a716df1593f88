/-
  WHAT A SEARCH ANSWERS IS HELD AGAINST ANOTHER, marked and held: eqPlanOut, markPlanOut, heldPlanOut.
-/
import Derived.Test.YtdmfljejlhlbnaaXe
import Derived.Test.YtdmfljejlhlbnaaVd
namespace Go.Proofs.Ytdmfljejlhlbnaa
open Go.RowKit
set_option linter.unusedVariables false

/-- A box with an answer. -/
def BoxQ (w : World) (b : Nat) (x0 : Int) (v : Value) (x2 x3 : Int) : Prop := w.heap[b]? = some (.cells #[.int .i64 x0, v, .int .i64 x2, .int .i64 x3] 70)
theorem BoxQ.facts {w : World} {b : Nat} {x0 x2 x3 : Int} {v : Value} (h : BoxQ w b x0 v x2 x3) : b < w.heap.size ∧ w.cell? ⟨b, 0, none⟩ = some (.int .i64 x0) ∧ w.cell? ⟨b, 1, none⟩ = some v ∧ w.cell? ⟨b, 2, none⟩ = some (.int .i64 x2) ∧ w.cell? ⟨b, 3, none⟩ = some (.int .i64 x3) := by
  unfold BoxQ at h
  refine ⟨(Array.getElem?_eq_some_iff.1 h).1, ?_, ?_, ?_, ?_⟩ <;> simp [World.cell?, h]
theorem BoxQ.below {w w' : World} {b : Nat} {x0 x2 x3 : Int} {v : Value} (h : BoxQ w b x0 v x2 x3) (hb : Below w.heap.size w w') : BoxQ w' b x0 v x2 x3 := (hb.block b h.facts.1).trans h
theorem BoxQ.btw {X Y : Nat} {w w' : World} {b : Nat} {x0 x2 x3 : Int} {v : Value} (h : BoxQ w b x0 v x2 x3) (hb : Btw X Y w w') (hc : b < X ∨ Y ≤ b) : BoxQ w' b x0 v x2 x3 := (hb.block b h.facts.1 hc).trans h
theorem BoxQ.grown {w w' : World} {b : Nat} {x0 x2 x3 : Int} {v : Value} (h : BoxQ w b x0 v x2 x3) {C n : Nat} {u : Value} {xs : List Value} (o : w.ownsRow C 34 2 u n xs) (g : w.grownBy w' u.ownBlock) : BoxQ w' b x0 v x2 x3 := by
  refine (g.block b h.facts.1 fun e => ?_).trans h
  obtain ⟨cur, hk⟩ := own_kind o e.symm
  have h2 : w.heap[b]? = some (.cells #[.int .i64 x0, v, .int .i64 x2, .int .i64 x3] 70) := h
  rw [h2] at hk
  simp at hk
/-- An owned row of cells of places. -/
def OwP (w : World) (B : Nat) (v : Value) (n : Nat) (xs : List Value) : Prop := w.ownsRow B 34 2 v n xs
theorem OwP.below {w w' : World} {B : Nat} {v : Value} {n : Nat} {xs : List Value} (h : OwP w B v n xs) (hb : Below w.heap.size w w') : OwP w' B v n xs := own_below h hb
theorem OwP.up {X Y B : Nat} {w w' : World} {v : Value} {n : Nat} {xs : List Value} (h : OwP w B v n xs) (hb : Btw X Y w w') (hY : Y ≤ B) : OwP w' B v n xs := own_btw h hb (fun j hj => .inr (Nat.le_trans hY (World.ownsRow.lt h j hj).1))
theorem BtwOf {C : Nat} {w w' : World} (h : Below C w w') : Btw C w.heap.size w w' := ⟨h.os, h.tape, h.output, h.size, fun k hk hc => by
  rcases hc with hc | hc
  · exact h.block k hc
  · omega⟩
set_option maxRecDepth 100000 in
set_option maxHeartbeats 1000000 in
theorem eqPO_any (a b c : Int) (sl sl' : Option Addr) (cap cap' : Nat) (pl : List LPl) (w : World) (hn : pl.length ≤ 1048576) (h : Pls w sl pl) (h' : Pls w sl' pl) :
    Calls Try.prog 48 #[PV a (.slice sl pl.length cap) b c, PV a (.slice sl' pl.length cap') b c] w fun e w' => e = .returned (.bool true) ∧ Below w.heap.size w w' := by
  have B0 := Lib.hid (bA (bA0 w (.cells #[.int .i64 a, .slice sl pl.length cap, .int .i64 b, .int .i64 c] 70)) (.cells #[.int .i64 a, .slice sl' pl.length cap', .int .i64 b, .int .i64 c] 70))
  have E := Lib.hid (eqPlS_any sl sl' cap cap' pl _ hn (h.below B0.out) (h'.below B0.out))
  have X1 : Hid (BoxQ ((w.alloc (.cells #[.int .i64 a, .slice sl pl.length cap, .int .i64 b, .int .i64 c] 70)).alloc (.cells #[.int .i64 a, .slice sl' pl.length cap', .int .i64 b, .int .i64 c] 70)) w.heap.size a (.slice sl pl.length cap) b c) := (Below.heap_alloc _ _ _ (by simp)).trans (new_at _ _)
  have X2 : Hid (BoxQ ((w.alloc (.cells #[.int .i64 a, .slice sl pl.length cap, .int .i64 b, .int .i64 c] 70)).alloc (.cells #[.int .i64 a, .slice sl' pl.length cap', .int .i64 b, .int .i64 c] 70)) (w.heap.size + 1) a (.slice sl' pl.length cap') b c) := by
    have := new_at (w.alloc (.cells #[.int .i64 a, .slice sl pl.length cap, .int .i64 b, .int .i64 c] 70)) (.cells #[.int .i64 a, .slice sl' pl.length cap', .int .i64 b, .int .i64 c] 70)
    rwa [show (w.alloc (.cells #[.int .i64 a, .slice sl pl.length cap, .int .i64 b, .int .i64 c] 70)).heap.size = w.heap.size + 1 by simp] at this
  clear h h'
  generalize pl.length = n at *
  go_enter Try.func48, Try.ntmps48
  go_wp2_with fail
  generalize (w.alloc (.cells #[.int .i64 a, .slice sl n cap, .int .i64 b, .int .i64 c] 70)).alloc (.cells #[.int .i64 a, .slice sl' n cap', .int .i64 b, .int .i64 c] 70) = w0 at *
  refine E.out.mono ?_
  rintro e w1 ⟨rfl, b1⟩
  have D1 := Lib.hid (bT B0.out b1)
  obtain ⟨y0, y1, y2, y3, y4⟩ := (X1.out.below b1).facts
  obtain ⟨z0, z1, z2, z3, z4⟩ := (X2.out.below b1).facts
  clear b1 E X1 X2
  go_wp2
  go_ret
  exact ⟨rfl, D1.out⟩
set_option maxRecDepth 100000 in
set_option maxHeartbeats 1000000 in
theorem mkPO_any (C : Nat) (a b c : Int) (v : Value) (n : Nat) (xs : List Value) (w : World) (hn : n ≤ 1048576) (hC : C ≤ w.heap.size) (o : OwP w C v n xs) :
    Calls Try.prog 51 #[PV a v b c, .int .i64 1] w fun e w' => e = .returned (.int .i64 (1 + 2 * (n : Int))) ∧ OwP w' C v n (valsZ (marks 1 (n * 2))) ∧ Below C w w' ∧ w.grownBy w' v.ownBlock := by
  obtain ⟨sl, cap, rfl⟩ := own_v o
  have M := Lib.hid (mark2_row C (.slice sl n cap) n xs 1 hn (by omega) (by omega) _ (World.ownsRow.alloc o (.cells #[.int .i64 a, .slice sl n cap, .int .i64 b, .int .i64 c] 70)))
  have G0 : Hid (w.grownBy (w.alloc (.cells #[.int .i64 a, .slice sl n cap, .int .i64 b, .int .i64 c] 70)) (Value.slice sl n cap).ownBlock) := ⟨rfl, rfl, rfl, by simp, fun k hk _ => Below.heap_alloc _ _ _ hk⟩
  have LO := Lib.hid (fun j hj => (World.ownsRow.lt o j hj).1)
  clear o
  go_enter Try.func51, Try.ntmps51
  go_wp2_with fail
  generalize w.alloc (.cells #[.int .i64 a, .slice sl n cap, .int .i64 b, .int .i64 c] 70) = w0 at *
  refine M.out.mono ?_
  rintro e w1 ⟨rfl, o1, g1⟩
  have O1 := Lib.hid o1
  have G1 : Hid (w.grownBy w1 (Value.slice sl n cap).ownBlock) := ⟨g1.os.trans G0.out.os, g1.tape.trans G0.out.tape, g1.output.trans G0.out.output, Nat.le_trans G0.out.size g1.size, fun k hk hne => (g1.block k (Nat.lt_of_lt_of_le hk G0.out.size) hne).trans (G0.out.block k hk hne)⟩
  have B1 : Hid (Below C w w1) := (Below.refl C w).grown G1.out hC LO.out
  clear o1 g1 M G0
  go_wp2
  go_ret
  exact ⟨rfl, O1.out, B1.out, G1.out⟩
set_option maxRecDepth 100000 in
set_option maxHeartbeats 1000000 in
theorem hdPO_any (C : Nat) (a b c : Int) (v : Value) (n : Nat) (w : World) (hn : n ≤ 1048576) (o : OwP w C v n (valsZ (marks 1 (n * 2)))) :
    Calls Try.prog 52 #[PV a v b c, .int .i64 1] w fun e w' => e = .returned (.int .i64 (1 + 2 * (n : Int))) ∧ Below w.heap.size w w' := by
  obtain ⟨sl, cap, rfl⟩ := own_v o
  have M := Lib.hid (held2_row C (.slice sl n cap) n 1 hn (by omega) (by omega) _ (World.ownsRow.alloc o (.cells #[.int .i64 a, .slice sl n cap, .int .i64 b, .int .i64 c] 70)))
  have B0 := Lib.hid (bA0 w (.cells #[.int .i64 a, .slice sl n cap, .int .i64 b, .int .i64 c] 70))
  have hneg : ¬ (1 + 2 * (n : Int)) < 0 := by omega
  clear o
  generalize 1 + 2 * (n : Int) = q at *
  go_enter Try.func52, Try.ntmps52
  go_wp2_with fail
  generalize w.alloc (.cells #[.int .i64 a, .slice sl n cap, .int .i64 b, .int .i64 c] 70) = w0 at *
  refine M.out.mono ?_
  rintro e w1 ⟨rfl, rfl⟩
  clear M
  go_wp2
  go_ret
  exact ⟨rfl, B0.out⟩
theorem pf_bare {rs rs' : List LSt} (ps : List LPr) (top : Int) (ids : List Int) (bd : Int) (h : bareS rs = bareS rs') : pfV rs ps top ids bd = pfV rs' ps top ids bd ∧ pfP rs ps top ids bd = pfP rs' ps top ids bd ∧ pfT rs ps top ids bd = pfT rs' ps top ids bd ∧ pfC rs ps ids bd = pfC rs' ps ids bd := by
  have e1 : chF rs top = chF rs' top := funext fun id => by unfold chF; rw [flat_bare id top rs rs' h]
  have e2 : B (PfOk rs ps ids bd) = B (PfOk rs' ps ids bd) := by
    have hb := BIds ps ids h
    refine B_iff ?_
    have hi : IdsR rs ps ids ↔ IdsR rs' ps ids := by
      constructor
      · intro hh
        have := B_yes hh
        rw [hb] at this
        exact B_true this
      · intro hh
        have := B_yes hh
        rw [← hb] at this
        exact B_true this
    unfold PfOk
    rw [hi]
  unfold pfV pfP pfT pfC pfS
  rw [e1, e2]
  exact ⟨rfl, rfl, rfl, rfl⟩
theorem pfP_len (rs : List LSt) (ps : List LPr) (top : Int) (ids : List Int) (bd : Int) : (pfP rs ps top ids bd).length ≤ 400 := by
  unfold pfP
  by_cases h : PfOk rs ps ids bd
  · rw [B_yes h, if_pos rfl]
    have hl := seek_len (fitB ps) bd.toNat (ids.map (chF rs top)) [] 0
    have h4 := h.1.1
    unfold pfS
    cases hr : seek (fitB ps) bd.toNat (ids.map (chF rs top)) [] 0 with
    | found p s =>
      have := hl p s hr
      simp at this
      show p.length ≤ 400
      omega
    | none s => exact Nat.zero_le _
    | out s => exact Nat.zero_le _
  · rw [B_no h]; exact Nat.zero_le _
end Go.Proofs.Ytdmfljejlhlbnaa
