/-
  THE SEARCH: solver.run.
  THE SOLVER'S FACE: what is deferred; impl.Solve, impl.SolveCount.
  CLAUSES MARKED AND HELD: markInt64SS, heldInt64SS, markCnf, heldCnf, over clauses that are owned.
  THE MODEL'S SEARCH: its state, and what turns it.
-/
import Derived.Test.YtnihhbfgbilimaaGreatDoorWae
import Derived.Recover
import Derived.Laws.CopyOwn
namespace Go.Proofs.YtnihhbfgbilimaaGreatDoor
open Go.RowKit
set_option linter.unusedVariables false

abbrev Res := Int × List Int × List (List Int) × Int
section
variable {w : World} {cs : List LCl} {V bud : Nat} {R : Res} {st : Nat} {ms ls : List LCl} {D : List Int}
end
/-- The answer's own block, as it is laid. -/
def BoxO (w : World) (b : Nat) : Prop := w.heap[b]? = some (.cells #[.int .i64 0, .slice none 0 0, .slice none 0 0, .int .i64 0, .int .i64 0] 107)
theorem BoxO.facts {w : World} {b : Nat} (h : BoxO w b) : b < w.heap.size ∧ w.cell? ⟨b, 0, none⟩ = some (.int .i64 0) ∧ w.cell? ⟨b, 1, none⟩ = some (.slice none 0 0) ∧ w.cell? ⟨b, 2, none⟩ = some (.slice none 0 0) ∧ w.cell? ⟨b, 3, none⟩ = some (.int .i64 0) ∧ w.cell? ⟨b, 4, none⟩ = some (.int .i64 0) ∧ w.frozen? ⟨b, 0, none⟩ = false ∧ w.frozen? ⟨b, 1, none⟩ = false ∧ w.frozen? ⟨b, 2, none⟩ = false ∧ w.frozen? ⟨b, 3, none⟩ = false ∧ w.frozen? ⟨b, 4, none⟩ = false := by
  unfold BoxO at h
  obtain ⟨e0, e1, e2, e3, e4⟩ := cells5 h
  exact ⟨(Array.getElem?_eq_some_iff.1 h).1, e0, e1, e2, e3, e4, by simp [World.frozen?, h], by simp [World.frozen?, h], by simp [World.frozen?, h], by simp [World.frozen?, h], by simp [World.frozen?, h]⟩
theorem BoxO.below {w w' : World} {b : Nat} (h : BoxO w b) (hb : Below w.heap.size w w') : BoxO w' b := (hb.block b h.facts.1).trans h
def set5 (w : World) (b : Nat) (v0 v1 v2 v3 v4 : Value) : World := ((((w.setCell ⟨b, 0, none⟩ v0).setCell ⟨b, 1, none⟩ v1).setCell ⟨b, 2, none⟩ v2).setCell ⟨b, 3, none⟩ v3).setCell ⟨b, 4, none⟩ v4
section
variable {w : World} {b : Nat} {us : Array Value} {v0 v1 v2 v3 v4 : Value}
theorem set5_at (h : w.heap[b]? = some (.cells #[.int .i64 0, .slice none 0 0, .slice none 0 0, .int .i64 0, .int .i64 0] 107)) : (set5 w b v0 v1 v2 v3 v4).heap[b]? = some (.cells #[v0, v1, v2, v3, v4] 107) :=
  heap_setCell_same _ b 4 _ 107 v4 (heap_setCell_same _ b 3 _ 107 v3 (heap_setCell_same _ b 2 _ 107 v2 (heap_setCell_same _ b 1 _ 107 v1 (heap_setCell_same w b 0 _ 107 v0 h))))
theorem set5_only (w : World) (b : Nat) (v0 v1 v2 v3 v4 : Value) : Only b w (set5 w b v0 v1 v2 v3 v4) := (((((Only.refl b w).setCell 0 v0).setCell 1 v1).setCell 2 v2).setCell 3 v3).setCell 4 v4
end
/-- What an answer of the solver is. -/
structure SoV (B : Nat) (R : Res) (vt vl : Value) (ls : List LCl) (W : World) : Prop where
  tr : W.ownsRow B 2 1 vt R.2.1.length (valsZ R.2.1)
  ol : OwC W B vl ls
  eq : bareC ls = R.2.2.1
  ap : ∀ r ∈ ls, ∀ j, r.1.ownBlock = some j → vt.ownBlock ≠ some j
theorem SoV.only {B : Nat} {R : Res} {vt vl : Value} {ls : List LCl} {W W' : World} {b : Nat} {us : Array Value} (h : SoV B R vt vl ls W) (ho : Only b W W') (hx : W.heap[b]? = some (.cells us 107)) : SoV B R vt vl ls W' :=
  ⟨own_only h.tr ho hx (by decide), owc_only h.ol ho hx (by decide) (by decide), h.eq, h.ap⟩
theorem SoV.below {B : Nat} {R : Res} {vt vl : Value} {ls : List LCl} {W W' : World} (h : SoV B R vt vl ls W) (hb : Below W.heap.size W W') : SoV B R vt vl ls W' :=
  ⟨own_below h.tr hb, h.ol.below hb, h.eq, h.ap⟩
theorem K30.trans {a b c : World} (h : K30 a b) (g : K30 b c) : K30 a c := fun k us hk => g k us (h k us hk)

/-- May it be solved? -/
def SolOk (vars : Int) (css : List (List Int)) (bud : Int) : Prop := CnfR vars css ∧ 0 ≤ bud ∧ bud ≤ 300
/-- What Solve answers, and its code. -/
noncomputable def solA (vars : Int) (css : List (List Int)) (bud : Int) : Res × Int := if B (SolOk vars css bud) = true then (solF css vars.toNat bud.toNat 0 [] [], 0) else ((0, [], [], 0), 1)
theorem solA_yes {vars : Int} {css : List (List Int)} {bud : Int} (h : SolOk vars css bud) : solA vars css bud = (solF css vars.toNat bud.toNat 0 [] [], 0) := by unfold solA; rw [B_yes h]; rfl
theorem solA_no {vars : Int} {css : List (List Int)} {bud : Int} (h : ¬ SolOk vars css bud) : solA vars css bud = ((0, [], [], 0), 1) := by unfold solA; rw [B_no h]; rfl
/-- What an answer is. -/
def SPost (w : World) (A : Res × Int) (e : Ending) (w' : World) : Prop := ∃ (vt vl : Value) (ls : List LCl), e = .returned (.agg #[.int .i64 A.1.1, vt, vl, .int .i64 A.1.2.2.2, .int .i64 A.2]) ∧ SoV w.heap.size A.1 vt vl ls w' ∧ Below w.heap.size w w'

/-- A search under way, as lists. -/
structure RunJ (css : List (List Int)) (V bud : Nat) (R : Res) (st : Nat) (L : List (List Int)) (D : List Int) : Prop where
  ok : SOk css V L D
  few : L.length ≤ st
  le : st ≤ bud
  run : solF css V (bud - st) st L D = R
section
variable {css : List (List Int)} {V bud : Nat} {R : Res} {st : Nat} {L : List (List Int)} {D : List Int}
theorem RunJ.stop (h : RunJ css V bud R st L D) (e : st = bud) : R = (3, [], L, (st : Int)) := by
  rw [← h.run]; exact solF_stop (by omega)
theorem RunJ.yes (h : RunJ css V bud R st L D) (e : ¬ st = bud) (h1 : (uRun css L D).2 = -1) (h2 : opn (uRun css L D).1 V 1 = 0) : R = (1, trL (uRun css L D).1 V, L, (st : Int) + 1) := by
  have := h.le
  rw [← h.run]; exact solF_yes (by omega) h1 h2
theorem RunJ.push (h : RunJ css V bud R st L D) (e : ¬ st = bud) (h1 : (uRun css L D).2 = -1) (h2 : ¬ opn (uRun css L D).1 V 1 = 0) : RunJ css V bud R (st + 1) L (D ++ [((opn (uRun css L D).1 V 1 : Nat) : Int)]) := by
  have hl := h.le
  have hf := h.few
  refine ⟨h.ok.push h2, by omega, by omega, ?_⟩
  rw [← h.run, solF_push (n := bud - st) (by omega) h1 h2, show bud - st - 1 = bud - (st + 1) by omega]
  rfl
theorem RunJ.no (h : RunJ css V bud R st L D) (e : ¬ st = bud) (h1 : ¬ (uRun css L D).2 = -1) (h2 : D.length = 0) : R = (2, [], L ++ [negL D], (st : Int) + 1) := by
  have := h.le
  rw [← h.run]; exact solF_no (by omega) h1 h2
theorem RunJ.pop (h : RunJ css V bud R st L D) (e : ¬ st = bud) (h1 : ¬ (uRun css L D).2 = -1) (h2 : ¬ D.length = 0) : RunJ css V bud R (st + 1) (L ++ [negL D]) D.dropLast := by
  have hl := h.le
  have hf := h.few
  refine ⟨h.ok.learn, by simp; omega, by omega, ?_⟩
  rw [← h.run, solF_pop (n := bud - st) (by omega) h1 h2, show bud - st - 1 = bud - (st + 1) by omega]
  rfl
theorem RunJ.sp (h : RunJ css V bud R st L D) : SpTo (V : Int) (uRun css L D).1 (uRun css L D).1.length := resF_sp _ h.ok.all _ _ h.ok.ds
end

/-- The model's search, how far it has come. -/
structure SS (w : World) (O : Nat) (V : Int) (sl : Option Addr) (n cap : Nat) (x : Int) (T : List Int) (ls : List LCl) (D : List Int) (vt vl vd : Value) (st : Int) (W : World) : Prop where
  cnf : CnfAt W w.heap.size V sl n cap
  box : BoxO W (w.heap.size + 1)
  out : W.heap[O]? = some (.cells #[.int .i64 x, vt, vl, .int .i64 st, .int .i64 0] 107)
  tr : W.ownsRow w.heap.size 2 1 vt T.length (valsZ T)
  ol : OwC W w.heap.size vl ls
  od : W.ownsRow w.heap.size 2 1 vd D.length (valsZ D)
  da : ∀ r ∈ ls, ∀ j, r.1.ownBlock = some j → vd.ownBlock ≠ some j
  ta : ∀ r ∈ ls, ∀ j, r.1.ownBlock = some j → vt.ownBlock ≠ some j
  bl : Below w.heap.size w W
  hO : w.heap.size + 1 < O
section
variable {w : World} {O : Nat} {V : Int} {sl : Option Addr} {n cap : Nat} {x : Int} {T : List Int} {ls : List LCl} {D : List Int} {vt vl vd : Value} {st : Int} {W W' : World}
theorem SS.below (h : SS w O V sl n cap x T ls D vt vl vd st W) (hb : Below W.heap.size W W') : SS w O V sl n cap x T ls D vt vl vd st W' :=
  ⟨h.cnf.below hb, h.box.below hb, (hb.block O (Array.getElem?_eq_some_iff.1 h.out).1).trans h.out, own_below h.tr hb, h.ol.below hb, own_below h.od hb, h.da, h.ta, bT h.bl hb, h.hO⟩
theorem SS.facts (h : SS w O V sl n cap x T ls D vt vl vd st W) : O < W.heap.size ∧ W.cell? ⟨O, 0, none⟩ = some (.int .i64 x) ∧ W.cell? ⟨O, 1, none⟩ = some vt ∧ W.cell? ⟨O, 2, none⟩ = some vl ∧ W.cell? ⟨O, 3, none⟩ = some (.int .i64 st) ∧ W.cell? ⟨O, 4, none⟩ = some (.int .i64 0) ∧ (∀ k, W.frozen? ⟨O, k, none⟩ = false) ∧ w.heap.size < W.heap.size ∧ W.cell? ⟨w.heap.size, 0, none⟩ = some (.int .i64 V) ∧ W.cell? ⟨w.heap.size, 1, none⟩ = some (.slice sl n cap) := by
  obtain ⟨e0, e1, e2, e3, e4⟩ := cells5 h.out
  exact ⟨(Array.getElem?_eq_some_iff.1 h.out).1, e0, e1, e2, e3, e4, fun k => by simp [World.frozen?, h.out], h.cnf.lt, h.cnf.cells⟩
/-- Only the answer's block is turned. -/
theorem SS.put (h : SS w O V sl n cap x T ls D vt vl vd st W) {x' : Int} {st' : Int} (ho : Only O W W') (hx : W'.heap[O]? = some (.cells #[.int .i64 x', vt, vl, .int .i64 st', .int .i64 0] 107)) : SS w O V sl n cap x' T ls D vt vl vd st' W' := by
  have hOs := h.hO
  exact ⟨(ho.block _ h.cnf.lt (by omega)).trans h.cnf, (ho.block _ h.box.facts.1 (by omega)).trans h.box, hx, own_only h.tr ho h.out (by decide), owc_only h.ol ho h.out (by decide) (by decide), own_only h.od ho h.out (by decide), h.da, h.ta, Only.below h.bl (by omega) ho, h.hO⟩
theorem SS.verdict (h : SS w O V sl n cap x T ls D vt vl vd st W) (y : Int) : SS w O V sl n cap y T ls D vt vl vd st (W.setCell ⟨O, 0, none⟩ (.int .i64 y)) :=
  h.put ((Only.refl O W).setCell 0 _) (heap_setCell_same W O 0 _ 107 _ h.out)
theorem SS.step (h : SS w O V sl n cap x T ls D vt vl vd st W) (y : Int) : SS w O V sl n cap x T ls D vt vl vd y (W.setCell ⟨O, 3, none⟩ (.int .i64 y)) :=
  h.put ((Only.refl O W).setCell 3 _) (heap_setCell_same W O 3 _ 107 _ h.out)
/-- Other blocks where a row of another kind grows. -/
theorem SS.slot (h : SS w O V sl n cap x T ls D vt vl vd st W) {e : TypeId} {m k B : Nat} {v : Value} {xs : List Value} (hv : W.ownsRow B e m v k xs) (h1 : e ≠ 110) (h2 : e ≠ 107) (hB : w.heap.size ≤ B) (hg : W.grownBy W' v.ownBlock) : CnfAt W' w.heap.size V sl n cap ∧ BoxO W' (w.heap.size + 1) ∧ W'.heap[O]? = some (.cells #[.int .i64 x, vt, vl, .int .i64 st, .int .i64 0] 107) ∧ Below w.heap.size w W' := by
  have key : ∀ (k : Nat) (us : Array Value) (t : TypeId), W.heap[k]? = some (.cells us t) → e ≠ t → W'.heap[k]? = some (.cells us t) := fun k us t hk ht =>
    (hg.block k (Array.getElem?_eq_some_iff.1 hk).1 (fun e' => by
      obtain ⟨cur, hc⟩ := own_kind hv e'.symm
      rw [hk] at hc
      cases hc
      exact ht rfl)).trans hk
  exact ⟨key _ _ _ h.cnf h1, key _ _ _ h.box h2, key _ _ _ h.out h2, h.bl.grown hg h.bl.size (fun j hj => Nat.le_trans hB (hv.lt j hj).1)⟩
/-- The decisions turned: their row grew, or a new one came. -/
theorem SS.decide (h : SS w O V sl n cap x T ls D vt vl vd st W) (hvt : vt = .slice none 0 0) {D' : List Int} {vd' : Value} (hg : W.grownBy W' vd.ownBlock) (ho : W'.ownsRow w.heap.size 2 1 vd' D'.length (valsZ D')) (hn : ∀ j, vd'.ownBlock = some j → vd.ownBlock = some j ∨ j = W.heap.size) :
    SS w O V sl n cap x T ls D' vt vl vd' st W' := by
  obtain ⟨s1, s2, s3, s4⟩ := h.slot h.od (by decide) (by decide) (Nat.le_refl _) hg
  have lr : ∀ r ∈ ls, W'.ownsRow w.heap.size 2 1 r.1 r.2.length (valsZ r.2) := fun r hr => (h.ol.each r hr).kept hg (by
    rcases hj : r.1.ownBlock with _ | j
    · exact .inl rfl
    · exact .inr (fun e => h.da r hr j hj e.symm))
  have oc : OwC W' w.heap.size vl ls := ⟨h.ol.row.kept hg (own_diff h.ol.row h.od (by decide)), lr, h.ol.diff⟩
  refine ⟨s1, s2, s3, h.tr.kept hg (.inl (by rw [hvt]; rfl)), oc, ho, fun r hr j hj e => ?_, h.ta, s4, h.hO⟩
  rcases hn j e with e2 | e2
  · exact h.da r hr j hj e2
  · have := ((h.ol.each r hr).lt j hj).2
    omega
/-- New decisions, in a world that only grew. -/
theorem SS.fresh (h : SS w O V sl n cap x T ls D vt vl vd st W) {D' : List Int} {vd' : Value} {B : Nat} (hb : Below W.heap.size W W') (ho : W'.ownsRow B 2 1 vd' D'.length (valsZ D')) (hB : W.heap.size ≤ B) : SS w O V sl n cap x T ls D' vt vl vd' st W' := by
  have h' := h.below hb
  refine ⟨h'.cnf, h'.box, h'.out, h'.tr, h'.ol, own_mono ho (Nat.le_trans h.bl.size hB), fun r hr j hj e => ?_, h'.ta, h'.bl, h'.hO⟩
  have h1 := ((h.ol.each r hr).lt j hj).2
  have h2 := (ho.lt j e).1
  omega
/-- One lemma more. -/
theorem SS.lemma (h : SS w O V sl n cap x T ls D vt vl vd st W) {r : LCl} {vl' : Value} (hr : W.ownsRow w.heap.size 2 1 r.1 r.2.length (valsZ r.2)) (hf : ∀ j, r.1.ownBlock = some j → (∀ s ∈ ls, s.1.ownBlock ≠ some j) ∧ vd.ownBlock ≠ some j ∧ vt.ownBlock ≠ some j) (hg : W.grownBy W' vl.ownBlock) (ho : W'.ownsRow w.heap.size 34 1 vl' (ls.length + 1) (hdC ls ++ [r.1])) :
    SS w O V sl n cap x T (ls ++ [r]) D vt vl' vd st (W'.setCell ⟨O, 2, none⟩ vl') := by
  obtain ⟨s1, s2, s3, s4⟩ := h.slot h.ol.row (by decide) (by decide) (Nat.le_refl _) hg
  have oc := h.ol.add (Below.refl _ _) hr (fun j hj s hs => (hf j hj).1 s hs) hg ho
  have hOs := h.hO
  have ho2 : Only O W' (W'.setCell ⟨O, 2, none⟩ vl') := (Only.refl O W').setCell 2 _
  refine ⟨(ho2.block _ s1.lt (by omega)).trans s1, (ho2.block _ s2.facts.1 (by omega)).trans s2, heap_setCell_same W' O 2 _ 107 _ s3, own_only (h.tr.kept hg (own_diff h.tr h.ol.row (by decide))) ho2 s3 (by decide), owc_only oc ho2 s3 (by decide) (by decide), own_only (h.od.kept hg (own_diff h.od h.ol.row (by decide))) ho2 s3 (by decide), fun s hs j hj => ?_, fun s hs j hj => ?_, Only.below s4 (by omega) ho2, h.hO⟩
  · rcases List.mem_append.1 hs with h1 | h1
    · exact h.da s h1 j hj
    · rw [List.mem_singleton.1 h1] at hj
      exact (hf j hj).2.1
  · rcases List.mem_append.1 hs with h1 | h1
    · exact h.ta s h1 j hj
    · rw [List.mem_singleton.1 h1] at hj
      exact (hf j hj).2.2
/-- One true more; the decisions are no longer asked for. -/
theorem SS.true (h : SS w O V sl n cap x T ls [] vt vl (.slice none 0 0) st W) {T' : List Int} {vt' : Value} (hg : W.grownBy W' vt.ownBlock) (ho : W'.ownsRow w.heap.size 2 1 vt' T'.length (valsZ T')) (hn : ∀ j, vt'.ownBlock = some j → vt.ownBlock = some j ∨ j = W.heap.size) :
    SS w O V sl n cap x T' ls [] vt' vl (.slice none 0 0) st (W'.setCell ⟨O, 1, none⟩ vt') := by
  obtain ⟨s1, s2, s3, s4⟩ := h.slot h.tr (by decide) (by decide) (Nat.le_refl _) hg
  have lr : ∀ r ∈ ls, W'.ownsRow w.heap.size 2 1 r.1 r.2.length (valsZ r.2) := fun r hr => (h.ol.each r hr).kept hg (by
    rcases hj : r.1.ownBlock with _ | j
    · exact .inl rfl
    · exact .inr (fun e => h.ta r hr j hj e.symm))
  have oc : OwC W' w.heap.size vl ls := ⟨h.ol.row.kept hg (own_diff h.ol.row h.tr (by decide)), lr, h.ol.diff⟩
  have hOs := h.hO
  have ho2 : Only O W' (W'.setCell ⟨O, 1, none⟩ vt') := (Only.refl O W').setCell 1 _
  refine ⟨(ho2.block _ s1.lt (by omega)).trans s1, (ho2.block _ s2.facts.1 (by omega)).trans s2, heap_setCell_same W' O 1 _ 107 _ s3, own_only ho ho2 s3 (by decide), owc_only oc ho2 s3 (by decide) (by decide), ⟨rfl, .inl ⟨rfl, rfl⟩⟩, (fun r hr j hj e => by cases e), fun r hr j hj e => ?_, Only.below s4 (by omega) ho2, h.hO⟩
  rcases hn j e with e2 | e2
  · exact h.ta r hr j hj e2
  · have := ((h.ol.each r hr).lt j hj).2
    omega
/-- The decisions forgotten. -/
theorem SS.drop (h : SS w O V sl n cap x T ls D vt vl vd st W) : SS w O V sl n cap x T ls [] vt vl (.slice none 0 0) st W :=
  ⟨h.cnf, h.box, h.out, h.tr, h.ol, ⟨rfl, .inl ⟨rfl, rfl⟩⟩, (fun r hr j hj e => by cases e), h.ta, h.bl, h.hO⟩
/-- The answer laid. -/
theorem SS.fin (h : SS w O V sl n cap x T ls D vt vl vd st W) {R : Res} (hR : R = (x, T, bareC ls, st)) : SPost w (R, 0) (.returned (.agg #[.int .i64 x, vt, vl, .int .i64 st, .int .i64 0])) (set5 W (w.heap.size + 1) (.int .i64 x) vt vl (.int .i64 st) (.int .i64 0)) := by
  subst hR
  have hv : SoV w.heap.size (x, T, bareC ls, st) vt vl ls W := ⟨h.tr, h.ol, rfl, h.ta⟩
  exact ⟨vt, vl, ls, rfl, hv.only (set5_only _ _ _ _ _ _ _) h.box, Only.below h.bl (by omega) (set5_only _ _ _ _ _ _ _)⟩
end
end Go.Proofs.YtnihhbfgbilimaaGreatDoor
