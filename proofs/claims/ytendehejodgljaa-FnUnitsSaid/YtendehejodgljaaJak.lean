/-
  THE SOLVER'S STATE, and what turns it: push, pop, spend, conflict, learn, told.
  CLAUSES, DRAWN: a Cnf that is being drawn, beside the source; what turns it.
  THE SEARCH: solver.run.
  THE SOLVER'S FACE: what is deferred; impl.Solve, impl.SolveCount.
  THE MODEL'S SEARCH: its state, and what turns it.
  HEADERS PUT BEHIND HEADERS; WHAT A SOLVER'S LEMMAS ARE, as lists.
  ONE OF THE CLAUSES OR LEMMAS: laws.lwClause.
  WHAT FNUNITS ASKS OF A RUN, as lists.
  THE LAWS' COPIES OF LISTS: lwCopy, lwSame.
-/
import Derived.Test.YtendehejodgljaaJaf
import Derived.Test.YtendehejodgljaaJae
import Derived.Test.YtendehejodgljaaJad
import Derived.Test.YtendehejodgljaaJag
import Derived.Test.YtendehejodgljaaJac
import Derived.Test.YtendehejodgljaaJab
import Derived.Test.YtendehejodgljaaJaa
import Derived.Test.YtendehejodgljaaJaj
import Derived.RegionTactic
import Derived.ChangeAlike
import Derived.Deep.RegionWith
import Derived.Deep.LoopGhost
import Derived.Recover
import Derived.Laws.CopyOwn
import Derived.Laws.EntriesVeiled
namespace Go.Proofs.Ytendehejodgljaa
open Go.RowKit
set_option linter.unusedVariables false

theorem own_box {W : World} {C : Nat} {e : TypeId} {m : Nat} {v : Value} {n : Nat} {xs : List Value} {X : Nat} {us : Array Value} {t : TypeId} (h : W.ownsRow C e m v n xs) (hx : W.heap[X]? = some (.cells us t)) (hne : t ≠ e) (i : Nat) (u : Value) : (W.setCell ⟨X, i, none⟩ u).ownsRow C e m v n xs := by
  refine ⟨h.1, ?_⟩
  rcases h.2 with h | ⟨g, cap, cur, hv, hg, hh, r⟩
  · exact .inl h
  · refine .inr ⟨g, cap, cur, hv, hg, (Below.heap_setCell _ _ _ _ ?_).trans hh, r⟩
    intro e'
    have e'' : g = X := e'
    rw [e'', hx] at hh
    cases hh
    exact hne rfl
theorem owc_box {W : World} {C : Nat} {v : Value} {cs : List LCl} {X : Nat} {us : Array Value} {t : TypeId} (h : OwC W C v cs) (hx : W.heap[X]? = some (.cells us t)) (h1 : t ≠ 26) (h2 : t ≠ 2) (i : Nat) (u : Value) : OwC (W.setCell ⟨X, i, none⟩ u) C v cs :=
  ⟨own_box h.row hx h1 i u, fun r hr => own_box (h.each r hr) hx h2 i u, h.diff⟩
theorem own_only {B : Nat} {e : TypeId} {m : Nat} {v : Value} {n : Nat} {xs : List Value} {b : Nat} {w w' : World} {us : Array Value} {t : TypeId} (h : w.ownsRow B e m v n xs) (ho : Only b w w') (hx : w.heap[b]? = some (.cells us t)) (hne : t ≠ e) : w'.ownsRow B e m v n xs := by
  refine ⟨h.1, ?_⟩
  rcases h.2 with h | ⟨g, cap, cur, hv, hg, hh, r⟩
  · exact .inl h
  · refine .inr ⟨g, cap, cur, hv, hg, (ho.block g (Array.getElem?_eq_some_iff.1 hh).1 ?_).trans hh, r⟩
    intro e'
    rw [e', hx] at hh
    cases hh
    exact hne rfl
theorem owc_only {B : Nat} {v : Value} {cs : List LCl} {b : Nat} {w w' : World} {us : Array Value} {t : TypeId} (h : OwC w B v cs) (ho : Only b w w') (hx : w.heap[b]? = some (.cells us t)) (h1 : t ≠ 26) (h2 : t ≠ 2) : OwC w' B v cs :=
  ⟨own_only h.row ho hx h1, fun r hr => own_only (h.each r hr) ho hx h2, h.diff⟩

abbrev SF (V bud st : Int) (vc vl vd : Value) : List Value := [.int .i64 V, .int .i64 bud, .int .i64 st, vc, vl, vd]

theorem appH {w : World} {B : Nat} {v : Value} {us : List Value} (h : w.ownsRow B 26 1 v us.length us) (u : Value) (hu : u.oneCell' = true) (c : Nat) (hc : ∀ (j : Nat) (x : Value), [u][j]? = some x → w.cell? ((⟨c, 0, none⟩ : Addr).add j) = some x) (hB : B ≤ w.heap.size) (hl : us.length ≤ 100000) :
    ∃ v9 w9, (∀ ty, (Builtin.append_ #[23, 23] ty #[v, .slice (some ⟨c, 0, none⟩) 1 1]).run Try.prog w = .ok v9 w9) ∧ w9.ownsRow B 26 1 v9 (us.length + 1) (us ++ [u]) ∧ w.grownBy w9 v.ownBlock := by
  obtain ⟨i3, hi3, hd0, hd1, hd2⟩ := info_parts info40
  obtain ⟨g, c9, w9, hr, own9, grow9, hg, -⟩ := run_append_lies (P := Try.prog) w 23 23 B 26 i3 (.slice none 0 0) 1 24 Try.underlying23 hi3 hd0 hd1 hd2 rfl (by decide) _ _ _ h ⟨c, 0, none⟩ 1 1 [u] rfl hc (by intro x hx; rw [List.mem_singleton.1 hx]; exact hu) (by decide) (by unfold maxLen; omega) (by omega) hB w.heap.size rfl
  exact ⟨_, w9, fun ty => hr, own9, grow9⟩
section
variable {w w0 : World} {b : Nat} {V bud st : Int} {ms ls : List LCl} {D tr : List Int} {vc vl vd : Value} {W W' : World}
end
theorem ints_new (w : World) (z : Int) : Ints (w.alloc (.cells #[.int .i64 z] 2)) (some ⟨w.heap.size, 0, none⟩) [z] := by
  refine .inr ⟨w.heap.size, 0, rfl, by simp, fun i hi => ?_⟩
  have : i = 0 := by simpa using hi
  subst this
  have h := new_at w (.cells #[.int .i64 z] 2)
  generalize w.alloc (.cells #[.int .i64 z] 2) = W at *
  simp [World.cell?, h]

theorem cells5 {W : World} {b : Nat} {v0 v1 v2 v3 v4 : Value} {t : TypeId} (h : W.heap[b]? = some (.cells #[v0, v1, v2, v3, v4] t)) : W.cell? ⟨b, 0, none⟩ = some v0 ∧ W.cell? ⟨b, 1, none⟩ = some v1 ∧ W.cell? ⟨b, 2, none⟩ = some v2 ∧ W.cell? ⟨b, 3, none⟩ = some v3 ∧ W.cell? ⟨b, 4, none⟩ = some v4 := by
  refine ⟨?_, ?_, ?_, ?_, ?_⟩ <;> simp [World.cell?, h]

end Go.Proofs.Ytendehejodgljaa
namespace Go.Proofs.Ytendehejodgljaa
open Go.RowKit
set_option linter.unusedVariables false

theorem owc_onlyD {B : Nat} {v : Value} {cs : List LCl} {b : Nat} {w w' : World} (h : OwC w B v cs) (ho : Only b w w') (hb : b < B) : OwC w' B v cs :=
  ⟨own_onlyD h.row ho hb, fun r hr => own_onlyD (h.each r hr) ho hb, h.diff⟩

/-- A Cnf that is being drawn: block O holds it, block w.heap.size will be the answer's. -/
structure CD (w : World) (B b O : Nat) (V : Int) (v : Value) (cs : List LCl) (W : World) : Prop where
  src : SrcB B W b
  only : Only b w W
  res : W.heap[w.heap.size]? = some (.cells #[.int .i64 0, .slice none 0 0] 25)
  out : W.heap[O]? = some (.cells #[.int .i64 V, v] 25)
  oc : OwC W w.heap.size v cs
  hB : B ≤ w.heap.size
  hO : w.heap.size < O
section
variable {w : World} {B b O : Nat} {V : Int} {v : Value} {cs : List LCl} {W W' : World}
theorem CD.bb (h : CD w B b O V v cs W) : b < w.heap.size := Nat.lt_of_lt_of_le h.src.1 h.hB
theorem CD.below (h : CD w B b O V v cs W) (hb : Below W.heap.size W W') : CD w B b O V v cs W' :=
  ⟨h.src.below hb, h.only.trans (Only.of_below hb), (hb.block _ (Array.getElem?_eq_some_iff.1 h.res).1).trans h.res, (hb.block _ (Array.getElem?_eq_some_iff.1 h.out).1).trans h.out, h.oc.below hb, h.hB, h.hO⟩
/-- Something was drawn. -/
theorem CD.draw (h : CD w B b O V v cs W) (hs : SrcB B W' b) (ho : Only b W W') : CD w B b O V v cs W' := by
  have h1 := h.bb
  have h2 := h.hO
  exact ⟨hs, h.only.trans ho, (ho.block _ (Array.getElem?_eq_some_iff.1 h.res).1 (by omega)).trans h.res, (ho.block _ (Array.getElem?_eq_some_iff.1 h.out).1 (by omega)).trans h.out, owc_onlyD h.oc ho h1, h.hB, h.hO⟩
theorem CD.facts (h : CD w B b O V v cs W) : O < W.heap.size ∧ W.cell? ⟨O, 0, none⟩ = some (.int .i64 V) ∧ W.cell? ⟨O, 1, none⟩ = some v ∧ W.frozen? ⟨O, 0, none⟩ = false ∧ W.frozen? ⟨O, 1, none⟩ = false ∧ w.heap.size < W.heap.size ∧ W.cell? ⟨w.heap.size, 0, none⟩ = some (.int .i64 0) ∧ W.cell? ⟨w.heap.size, 1, none⟩ = some (.slice none 0 0) ∧ W.frozen? ⟨w.heap.size, 0, none⟩ = false ∧ W.frozen? ⟨w.heap.size, 1, none⟩ = false := by
  have h1 := h.out
  have h2 := h.res
  exact ⟨(Array.getElem?_eq_some_iff.1 h1).1, by simp [World.cell?, h1], by simp [World.cell?, h1], by simp [World.frozen?, h1], by simp [World.frozen?, h1], (Array.getElem?_eq_some_iff.1 h2).1, by simp [World.cell?, h2], by simp [World.cell?, h2], by simp [World.frozen?, h2], by simp [World.frozen?, h2]⟩
/-- Another number of variables. -/
theorem CD.vars (h : CD w B b O V v cs W) (x : Int) : CD w B b O x v cs (W.setCell ⟨O, 0, none⟩ (.int .i64 x)) := by
  have h1 := h.bb
  have h2 := h.hO
  have h3 := h.hB
  exact ⟨h.src.set O (by omega) 0 _, h.only.setHigh O (by omega) 0 _, (Below.heap_setCell _ _ _ _ (by show w.heap.size ≠ O; omega)).trans h.res, heap_setCell_same W O 0 _ 25 _ h.out, owc_box h.oc h.out (by decide) (by decide) 0 _, h.hB, h.hO⟩
/-- One clause more. -/
theorem CD.add (h : CD w B b O V v cs W) {r : LCl} {v' : Value} (hr : W.ownsRow w.heap.size 2 1 r.1 r.2.length (valsZ r.2)) (hf : ∀ j, r.1.ownBlock = some j → ∀ s ∈ cs, s.1.ownBlock ≠ some j) (hg : W.grownBy W' v.ownBlock) (ho : W'.ownsRow w.heap.size 26 1 v' (cs.length + 1) (hdC cs ++ [r.1])) :
    CD w B b O V v' (cs ++ [r]) (W'.setCell ⟨O, 1, none⟩ v') := by
  have h1 := h.bb
  have h2 := h.hO
  have h3 := h.hB
  have rowlo : ∀ j, v.ownBlock = some j → w.heap.size ≤ j := fun j hj => (h.oc.row.lt j hj).1
  have key : ∀ (k : Nat) (us : Array Value), W.heap[k]? = some (.cells us 25) → W'.heap[k]? = some (.cells us 25) := fun k us hk =>
    (hg.block k (Array.getElem?_eq_some_iff.1 hk).1 (fun e' => by
      obtain ⟨cur, hc⟩ := own_kind h.oc.row e'.symm
      rw [hk] at hc
      cases hc)).trans hk
  have oc := h.oc.add (Below.refl _ _) hr hf hg ho
  refine ⟨(h.src.grown hg (fun g hg' => by have := rowlo g hg'; omega)).set O (by omega) 1 _, (h.only.grown hg rowlo).setHigh O (by omega) 1 _, (Below.heap_setCell _ _ _ _ (by show w.heap.size ≠ O; omega)).trans (key _ _ h.res), heap_setCell_same W' O 1 _ 25 _ (key _ _ h.out), owc_box oc (key _ _ h.out) (by decide) (by decide) 1 _, h.hB, h.hO⟩
end
end Go.Proofs.Ytendehejodgljaa
namespace Go.Proofs.Ytendehejodgljaa
open Go.RowKit
set_option linter.unusedVariables false

abbrev Res := Int × List Int × List (List Int) × Int
section
variable {w : World} {cs : List LCl} {V bud : Nat} {R : Res} {st : Nat} {ms ls : List LCl} {D : List Int}
end
/-- The answer's own block, as it is laid. -/
def BoxO (w : World) (b : Nat) : Prop := w.heap[b]? = some (.cells #[.int .i64 0, .slice none 0 0, .slice none 0 0, .int .i64 0, .int .i64 0] 82)
theorem BoxO.facts {w : World} {b : Nat} (h : BoxO w b) : b < w.heap.size ∧ w.cell? ⟨b, 0, none⟩ = some (.int .i64 0) ∧ w.cell? ⟨b, 1, none⟩ = some (.slice none 0 0) ∧ w.cell? ⟨b, 2, none⟩ = some (.slice none 0 0) ∧ w.cell? ⟨b, 3, none⟩ = some (.int .i64 0) ∧ w.cell? ⟨b, 4, none⟩ = some (.int .i64 0) ∧ w.frozen? ⟨b, 0, none⟩ = false ∧ w.frozen? ⟨b, 1, none⟩ = false ∧ w.frozen? ⟨b, 2, none⟩ = false ∧ w.frozen? ⟨b, 3, none⟩ = false ∧ w.frozen? ⟨b, 4, none⟩ = false := by
  unfold BoxO at h
  obtain ⟨e0, e1, e2, e3, e4⟩ := cells5 h
  exact ⟨(Array.getElem?_eq_some_iff.1 h).1, e0, e1, e2, e3, e4, by simp [World.frozen?, h], by simp [World.frozen?, h], by simp [World.frozen?, h], by simp [World.frozen?, h], by simp [World.frozen?, h]⟩
theorem BoxO.below {w w' : World} {b : Nat} (h : BoxO w b) (hb : Below w.heap.size w w') : BoxO w' b := (hb.block b h.facts.1).trans h
def set5 (w : World) (b : Nat) (v0 v1 v2 v3 v4 : Value) : World := ((((w.setCell ⟨b, 0, none⟩ v0).setCell ⟨b, 1, none⟩ v1).setCell ⟨b, 2, none⟩ v2).setCell ⟨b, 3, none⟩ v3).setCell ⟨b, 4, none⟩ v4
section
variable {w : World} {b : Nat} {us : Array Value} {v0 v1 v2 v3 v4 : Value}
theorem set5_at (h : w.heap[b]? = some (.cells #[.int .i64 0, .slice none 0 0, .slice none 0 0, .int .i64 0, .int .i64 0] 82)) : (set5 w b v0 v1 v2 v3 v4).heap[b]? = some (.cells #[v0, v1, v2, v3, v4] 82) :=
  heap_setCell_same _ b 4 _ 82 v4 (heap_setCell_same _ b 3 _ 82 v3 (heap_setCell_same _ b 2 _ 82 v2 (heap_setCell_same _ b 1 _ 82 v1 (heap_setCell_same w b 0 _ 82 v0 h))))
theorem set5_only (w : World) (b : Nat) (v0 v1 v2 v3 v4 : Value) : Only b w (set5 w b v0 v1 v2 v3 v4) := (((((Only.refl b w).setCell 0 v0).setCell 1 v1).setCell 2 v2).setCell 3 v3).setCell 4 v4
end
/-- What an answer of the solver is. -/
structure SoV (B : Nat) (R : Res) (vt vl : Value) (ls : List LCl) (W : World) : Prop where
  tr : W.ownsRow B 2 1 vt R.2.1.length (valsZ R.2.1)
  ol : OwC W B vl ls
  eq : bareC ls = R.2.2.1
  ap : ∀ r ∈ ls, ∀ j, r.1.ownBlock = some j → vt.ownBlock ≠ some j
theorem SoV.only {B : Nat} {R : Res} {vt vl : Value} {ls : List LCl} {W W' : World} {b : Nat} {us : Array Value} (h : SoV B R vt vl ls W) (ho : Only b W W') (hx : W.heap[b]? = some (.cells us 82)) : SoV B R vt vl ls W' :=
  ⟨own_only h.tr ho hx (by decide), owc_only h.ol ho hx (by decide) (by decide), h.eq, h.ap⟩
theorem SoV.below {B : Nat} {R : Res} {vt vl : Value} {ls : List LCl} {W W' : World} (h : SoV B R vt vl ls W) (hb : Below W.heap.size W W') : SoV B R vt vl ls W' :=
  ⟨own_below h.tr hb, h.ol.below hb, h.eq, h.ap⟩
end Go.Proofs.Ytendehejodgljaa
namespace Go.Proofs.Ytendehejodgljaa
open Go.RowKit
set_option linter.unusedVariables false

/-- May it be solved? -/
def SolOk (vars : Int) (css : List (List Int)) (bud : Int) : Prop := CnfR vars css ∧ 0 ≤ bud ∧ bud ≤ 300
/-- What Solve answers, and its code. -/
noncomputable def solA (vars : Int) (css : List (List Int)) (bud : Int) : Res × Int := if B (SolOk vars css bud) = true then (solF css vars.toNat bud.toNat 0 [] [], 0) else ((0, [], [], 0), 1)
theorem solA_yes {vars : Int} {css : List (List Int)} {bud : Int} (h : SolOk vars css bud) : solA vars css bud = (solF css vars.toNat bud.toNat 0 [] [], 0) := by unfold solA; rw [B_yes h]; rfl
theorem solA_no {vars : Int} {css : List (List Int)} {bud : Int} (h : ¬ SolOk vars css bud) : solA vars css bud = ((0, [], [], 0), 1) := by unfold solA; rw [B_no h]; rfl
/-- What an answer is. -/
def SPost (w : World) (A : Res × Int) (e : Ending) (w' : World) : Prop := ∃ (vt vl : Value) (ls : List LCl), e = .returned (.agg #[.int .i64 A.1.1, vt, vl, .int .i64 A.1.2.2.2, .int .i64 A.2]) ∧ SoV w.heap.size A.1 vt vl ls w' ∧ Below w.heap.size w w'
end Go.Proofs.Ytendehejodgljaa
namespace Go.Proofs.Ytendehejodgljaa
open Go.RowKit
set_option linter.unusedVariables false

/-- A search under way, as lists. -/
structure RunJ (css : List (List Int)) (V bud : Nat) (R : Res) (st : Nat) (L : List (List Int)) (D : List Int) : Prop where
  ok : SOk css V L D
  few : L.length ≤ st
  le : st ≤ bud
  run : solF css V (bud - st) st L D = R
section
variable {css : List (List Int)} {V bud : Nat} {R : Res} {st : Nat} {L : List (List Int)} {D : List Int}
theorem RunJ.stop (h : RunJ css V bud R st L D) (e : st = bud) : R = (3, [], L, (st : Int)) := by
  rw [← h.run]; exact solF_stop (by omega)
theorem RunJ.yes (h : RunJ css V bud R st L D) (e : ¬ st = bud) (h1 : (uRun css L D).2 = -1) (h2 : opn (uRun css L D).1 V 1 = 0) : R = (1, trL (uRun css L D).1 V, L, (st : Int) + 1) := by
  have := h.le
  rw [← h.run]; exact solF_yes (by omega) h1 h2
theorem RunJ.push (h : RunJ css V bud R st L D) (e : ¬ st = bud) (h1 : (uRun css L D).2 = -1) (h2 : ¬ opn (uRun css L D).1 V 1 = 0) : RunJ css V bud R (st + 1) L (D ++ [((opn (uRun css L D).1 V 1 : Nat) : Int)]) := by
  have hl := h.le
  have hf := h.few
  refine ⟨h.ok.push h2, by omega, by omega, ?_⟩
  rw [← h.run, solF_push (n := bud - st) (by omega) h1 h2, show bud - st - 1 = bud - (st + 1) by omega]
  rfl
theorem RunJ.no (h : RunJ css V bud R st L D) (e : ¬ st = bud) (h1 : ¬ (uRun css L D).2 = -1) (h2 : D.length = 0) : R = (2, [], L ++ [negL D], (st : Int) + 1) := by
  have := h.le
  rw [← h.run]; exact solF_no (by omega) h1 h2
theorem RunJ.pop (h : RunJ css V bud R st L D) (e : ¬ st = bud) (h1 : ¬ (uRun css L D).2 = -1) (h2 : ¬ D.length = 0) : RunJ css V bud R (st + 1) (L ++ [negL D]) D.dropLast := by
  have hl := h.le
  have hf := h.few
  refine ⟨h.ok.learn, by simp; omega, by omega, ?_⟩
  rw [← h.run, solF_pop (n := bud - st) (by omega) h1 h2, show bud - st - 1 = bud - (st + 1) by omega]
  rfl
theorem RunJ.sp (h : RunJ css V bud R st L D) : SpTo (V : Int) (uRun css L D).1 (uRun css L D).1.length := resF_sp _ h.ok.all _ _ h.ok.ds
end

/-- The model's search, how far it has come. -/
structure SS (w : World) (O : Nat) (V : Int) (sl : Option Addr) (n cap : Nat) (x : Int) (T : List Int) (ls : List LCl) (D : List Int) (vt vl vd : Value) (st : Int) (W : World) : Prop where
  cnf : CnfAt W w.heap.size V sl n cap
  box : BoxO W (w.heap.size + 1)
  out : W.heap[O]? = some (.cells #[.int .i64 x, vt, vl, .int .i64 st, .int .i64 0] 82)
  tr : W.ownsRow w.heap.size 2 1 vt T.length (valsZ T)
  ol : OwC W w.heap.size vl ls
  od : W.ownsRow w.heap.size 2 1 vd D.length (valsZ D)
  da : ∀ r ∈ ls, ∀ j, r.1.ownBlock = some j → vd.ownBlock ≠ some j
  ta : ∀ r ∈ ls, ∀ j, r.1.ownBlock = some j → vt.ownBlock ≠ some j
  bl : Below w.heap.size w W
  hO : w.heap.size + 1 < O
section
variable {w : World} {O : Nat} {V : Int} {sl : Option Addr} {n cap : Nat} {x : Int} {T : List Int} {ls : List LCl} {D : List Int} {vt vl vd : Value} {st : Int} {W W' : World}
theorem SS.below (h : SS w O V sl n cap x T ls D vt vl vd st W) (hb : Below W.heap.size W W') : SS w O V sl n cap x T ls D vt vl vd st W' :=
  ⟨h.cnf.below hb, h.box.below hb, (hb.block O (Array.getElem?_eq_some_iff.1 h.out).1).trans h.out, own_below h.tr hb, h.ol.below hb, own_below h.od hb, h.da, h.ta, bT h.bl hb, h.hO⟩
theorem SS.facts (h : SS w O V sl n cap x T ls D vt vl vd st W) : O < W.heap.size ∧ W.cell? ⟨O, 0, none⟩ = some (.int .i64 x) ∧ W.cell? ⟨O, 1, none⟩ = some vt ∧ W.cell? ⟨O, 2, none⟩ = some vl ∧ W.cell? ⟨O, 3, none⟩ = some (.int .i64 st) ∧ W.cell? ⟨O, 4, none⟩ = some (.int .i64 0) ∧ (∀ k, W.frozen? ⟨O, k, none⟩ = false) ∧ w.heap.size < W.heap.size ∧ W.cell? ⟨w.heap.size, 0, none⟩ = some (.int .i64 V) ∧ W.cell? ⟨w.heap.size, 1, none⟩ = some (.slice sl n cap) := by
  obtain ⟨e0, e1, e2, e3, e4⟩ := cells5 h.out
  exact ⟨(Array.getElem?_eq_some_iff.1 h.out).1, e0, e1, e2, e3, e4, fun k => by simp [World.frozen?, h.out], h.cnf.lt, h.cnf.cells⟩
/-- Only the answer's block is turned. -/
theorem SS.put (h : SS w O V sl n cap x T ls D vt vl vd st W) {x' : Int} {st' : Int} (ho : Only O W W') (hx : W'.heap[O]? = some (.cells #[.int .i64 x', vt, vl, .int .i64 st', .int .i64 0] 82)) : SS w O V sl n cap x' T ls D vt vl vd st' W' := by
  have hOs := h.hO
  exact ⟨(ho.block _ h.cnf.lt (by omega)).trans h.cnf, (ho.block _ h.box.facts.1 (by omega)).trans h.box, hx, own_only h.tr ho h.out (by decide), owc_only h.ol ho h.out (by decide) (by decide), own_only h.od ho h.out (by decide), h.da, h.ta, Only.below h.bl (by omega) ho, h.hO⟩
theorem SS.verdict (h : SS w O V sl n cap x T ls D vt vl vd st W) (y : Int) : SS w O V sl n cap y T ls D vt vl vd st (W.setCell ⟨O, 0, none⟩ (.int .i64 y)) :=
  h.put ((Only.refl O W).setCell 0 _) (heap_setCell_same W O 0 _ 82 _ h.out)
theorem SS.step (h : SS w O V sl n cap x T ls D vt vl vd st W) (y : Int) : SS w O V sl n cap x T ls D vt vl vd y (W.setCell ⟨O, 3, none⟩ (.int .i64 y)) :=
  h.put ((Only.refl O W).setCell 3 _) (heap_setCell_same W O 3 _ 82 _ h.out)
/-- Other blocks where a row of another kind grows. -/
theorem SS.slot (h : SS w O V sl n cap x T ls D vt vl vd st W) {e : TypeId} {m k B : Nat} {v : Value} {xs : List Value} (hv : W.ownsRow B e m v k xs) (h1 : e ≠ 25) (h2 : e ≠ 82) (hB : w.heap.size ≤ B) (hg : W.grownBy W' v.ownBlock) : CnfAt W' w.heap.size V sl n cap ∧ BoxO W' (w.heap.size + 1) ∧ W'.heap[O]? = some (.cells #[.int .i64 x, vt, vl, .int .i64 st, .int .i64 0] 82) ∧ Below w.heap.size w W' := by
  have key : ∀ (k : Nat) (us : Array Value) (t : TypeId), W.heap[k]? = some (.cells us t) → e ≠ t → W'.heap[k]? = some (.cells us t) := fun k us t hk ht =>
    (hg.block k (Array.getElem?_eq_some_iff.1 hk).1 (fun e' => by
      obtain ⟨cur, hc⟩ := own_kind hv e'.symm
      rw [hk] at hc
      cases hc
      exact ht rfl)).trans hk
  exact ⟨key _ _ _ h.cnf h1, key _ _ _ h.box h2, key _ _ _ h.out h2, h.bl.grown hg h.bl.size (fun j hj => Nat.le_trans hB (hv.lt j hj).1)⟩
/-- The decisions turned: their row grew, or a new one came. -/
theorem SS.decide (h : SS w O V sl n cap x T ls D vt vl vd st W) (hvt : vt = .slice none 0 0) {D' : List Int} {vd' : Value} (hg : W.grownBy W' vd.ownBlock) (ho : W'.ownsRow w.heap.size 2 1 vd' D'.length (valsZ D')) (hn : ∀ j, vd'.ownBlock = some j → vd.ownBlock = some j ∨ j = W.heap.size) :
    SS w O V sl n cap x T ls D' vt vl vd' st W' := by
  obtain ⟨s1, s2, s3, s4⟩ := h.slot h.od (by decide) (by decide) (Nat.le_refl _) hg
  have lr : ∀ r ∈ ls, W'.ownsRow w.heap.size 2 1 r.1 r.2.length (valsZ r.2) := fun r hr => (h.ol.each r hr).kept hg (by
    rcases hj : r.1.ownBlock with _ | j
    · exact .inl rfl
    · exact .inr (fun e => h.da r hr j hj e.symm))
  have oc : OwC W' w.heap.size vl ls := ⟨h.ol.row.kept hg (own_diff h.ol.row h.od (by decide)), lr, h.ol.diff⟩
  refine ⟨s1, s2, s3, h.tr.kept hg (.inl (by rw [hvt]; rfl)), oc, ho, fun r hr j hj e => ?_, h.ta, s4, h.hO⟩
  rcases hn j e with e2 | e2
  · exact h.da r hr j hj e2
  · have := ((h.ol.each r hr).lt j hj).2
    omega
/-- New decisions, in a world that only grew. -/
theorem SS.fresh (h : SS w O V sl n cap x T ls D vt vl vd st W) {D' : List Int} {vd' : Value} {B : Nat} (hb : Below W.heap.size W W') (ho : W'.ownsRow B 2 1 vd' D'.length (valsZ D')) (hB : W.heap.size ≤ B) : SS w O V sl n cap x T ls D' vt vl vd' st W' := by
  have h' := h.below hb
  refine ⟨h'.cnf, h'.box, h'.out, h'.tr, h'.ol, own_mono ho (Nat.le_trans h.bl.size hB), fun r hr j hj e => ?_, h'.ta, h'.bl, h'.hO⟩
  have h1 := ((h.ol.each r hr).lt j hj).2
  have h2 := (ho.lt j e).1
  omega
/-- One lemma more. -/
theorem SS.lemma (h : SS w O V sl n cap x T ls D vt vl vd st W) {r : LCl} {vl' : Value} (hr : W.ownsRow w.heap.size 2 1 r.1 r.2.length (valsZ r.2)) (hf : ∀ j, r.1.ownBlock = some j → (∀ s ∈ ls, s.1.ownBlock ≠ some j) ∧ vd.ownBlock ≠ some j ∧ vt.ownBlock ≠ some j) (hg : W.grownBy W' vl.ownBlock) (ho : W'.ownsRow w.heap.size 26 1 vl' (ls.length + 1) (hdC ls ++ [r.1])) :
    SS w O V sl n cap x T (ls ++ [r]) D vt vl' vd st (W'.setCell ⟨O, 2, none⟩ vl') := by
  obtain ⟨s1, s2, s3, s4⟩ := h.slot h.ol.row (by decide) (by decide) (Nat.le_refl _) hg
  have oc := h.ol.add (Below.refl _ _) hr (fun j hj s hs => (hf j hj).1 s hs) hg ho
  have hOs := h.hO
  have ho2 : Only O W' (W'.setCell ⟨O, 2, none⟩ vl') := (Only.refl O W').setCell 2 _
  refine ⟨(ho2.block _ s1.lt (by omega)).trans s1, (ho2.block _ s2.facts.1 (by omega)).trans s2, heap_setCell_same W' O 2 _ 82 _ s3, own_only (h.tr.kept hg (own_diff h.tr h.ol.row (by decide))) ho2 s3 (by decide), owc_only oc ho2 s3 (by decide) (by decide), own_only (h.od.kept hg (own_diff h.od h.ol.row (by decide))) ho2 s3 (by decide), fun s hs j hj => ?_, fun s hs j hj => ?_, Only.below s4 (by omega) ho2, h.hO⟩
  · rcases List.mem_append.1 hs with h1 | h1
    · exact h.da s h1 j hj
    · rw [List.mem_singleton.1 h1] at hj
      exact (hf j hj).2.1
  · rcases List.mem_append.1 hs with h1 | h1
    · exact h.ta s h1 j hj
    · rw [List.mem_singleton.1 h1] at hj
      exact (hf j hj).2.2
/-- One true more; the decisions are no longer asked for. -/
theorem SS.true (h : SS w O V sl n cap x T ls [] vt vl (.slice none 0 0) st W) {T' : List Int} {vt' : Value} (hg : W.grownBy W' vt.ownBlock) (ho : W'.ownsRow w.heap.size 2 1 vt' T'.length (valsZ T')) (hn : ∀ j, vt'.ownBlock = some j → vt.ownBlock = some j ∨ j = W.heap.size) :
    SS w O V sl n cap x T' ls [] vt' vl (.slice none 0 0) st (W'.setCell ⟨O, 1, none⟩ vt') := by
  obtain ⟨s1, s2, s3, s4⟩ := h.slot h.tr (by decide) (by decide) (Nat.le_refl _) hg
  have lr : ∀ r ∈ ls, W'.ownsRow w.heap.size 2 1 r.1 r.2.length (valsZ r.2) := fun r hr => (h.ol.each r hr).kept hg (by
    rcases hj : r.1.ownBlock with _ | j
    · exact .inl rfl
    · exact .inr (fun e => h.ta r hr j hj e.symm))
  have oc : OwC W' w.heap.size vl ls := ⟨h.ol.row.kept hg (own_diff h.ol.row h.tr (by decide)), lr, h.ol.diff⟩
  have hOs := h.hO
  have ho2 : Only O W' (W'.setCell ⟨O, 1, none⟩ vt') := (Only.refl O W').setCell 1 _
  refine ⟨(ho2.block _ s1.lt (by omega)).trans s1, (ho2.block _ s2.facts.1 (by omega)).trans s2, heap_setCell_same W' O 1 _ 82 _ s3, own_only ho ho2 s3 (by decide), owc_only oc ho2 s3 (by decide) (by decide), ⟨rfl, .inl ⟨rfl, rfl⟩⟩, (fun r hr j hj e => by cases e), fun r hr j hj e => ?_, Only.below s4 (by omega) ho2, h.hO⟩
  rcases hn j e with e2 | e2
  · exact h.ta r hr j hj e2
  · have := ((h.ol.each r hr).lt j hj).2
    omega
/-- The decisions forgotten. -/
theorem SS.drop (h : SS w O V sl n cap x T ls D vt vl vd st W) : SS w O V sl n cap x T ls [] vt vl (.slice none 0 0) st W :=
  ⟨h.cnf, h.box, h.out, h.tr, h.ol, ⟨rfl, .inl ⟨rfl, rfl⟩⟩, (fun r hr j hj e => by cases e), h.ta, h.bl, h.hO⟩
/-- The answer laid. -/
theorem SS.fin (h : SS w O V sl n cap x T ls D vt vl vd st W) {R : Res} (hR : R = (x, T, bareC ls, st)) : SPost w (R, 0) (.returned (.agg #[.int .i64 x, vt, vl, .int .i64 st, .int .i64 0])) (set5 W (w.heap.size + 1) (.int .i64 x) vt vl (.int .i64 st) (.int .i64 0)) := by
  subst hR
  have hv : SoV w.heap.size (x, T, bareC ls, st) vt vl ls W := ⟨h.tr, h.ol, rfl, h.ta⟩
  exact ⟨vt, vl, ls, rfl, hv.only (set5_only _ _ _ _ _ _ _) h.box, Only.below h.bl (by omega) (set5_only _ _ _ _ _ _ _)⟩
end
end Go.Proofs.Ytendehejodgljaa
namespace Go.Proofs.Ytendehejodgljaa
open Go.RowKit
set_option linter.unusedVariables false

theorem step_append_run (w : World) {ops : Array Oper} {o : Oper} {a : Act} {K : Act → World → Prop} {Q : Exit → Act → World → Prop} {E : Prop} (hgd : o.guard = none) (s x : Operand) (t tn : TypeId)
    (ho : o.op = .call { callee := .builtin .append, args := #[s, x], argTypes := #[t, tn] }) (vs vx : Value) (hs : a.eval s = vs) (hx : a.eval x = vx)
    (v' : Value) (w' : World) (hr : (Builtin.append_ #[t, tn] o.type #[vs, vx]).run Try.prog w = .ok v' w') (h : K (a.put o.dst v') w') : if Region.wanted o (yielded ops a.tmps) = true then Oper.wp Try.prog o a w K Q else E := by
  have hw : Region.wanted o (yielded ops a.tmps) = true := by simp [Region.wanted, hgd]
  rw [if_pos hw]
  exact Lib.wp_append_run w s x t tn ho vs vx hs hx v' w' hr h
theorem own_noneH (w : World) : (w.alloc (.cells #[] 26)).ownsRow w.heap.size 26 1 (.slice (some ⟨w.heap.size, 0, none⟩) 0 0) 0 [] :=
  ⟨rfl, .inr ⟨w.heap.size, 0, _, rfl, Nat.le_refl _, new_at _ _, Nat.le_refl _, Nat.zero_le _, rfl, rfl⟩⟩
/-- A slice of headers put behind headers. -/
theorem appHs {w : World} {B : Nat} {v : Value} {us : List Value} (h : w.ownsRow B 26 1 v us.length us) {C : Nat} {s : Option Addr} {k : Nat} {ds : List LCl} (h2 : OwC w C (.slice s ds.length k) ds) (hB : B ≤ w.heap.size) (hl : us.length + ds.length ≤ 10000000) :
    ∃ v9 w9, (∀ ty, (Builtin.append_ #[23, 23] ty #[v, .slice s ds.length k]).run Try.prog w = .ok v9 w9) ∧ w9.ownsRow B 26 1 v9 (us.length + ds.length) (us ++ hdC ds) ∧ w.grownBy w9 v.ownBlock := by
  obtain ⟨i3, hi3, hd0, hd1, hd2⟩ := info_parts info40
  obtain ⟨sl, cap, rfl⟩ := own_v h
  obtain ⟨s', k', e, c⟩ := h2.cls
  cases e
  by_cases he : ds = []
  · subst he
    exact ⟨_, w, fun ty => app_noneV w ty sl us.length cap (own_cap8 h) s k, by simpa [hdC] using h, ⟨rfl, rfl, rfl, Nat.le_refl _, fun _ _ _ => rfl⟩⟩
  · rcases c.row with hi | ⟨c0, o, rfl, hi⟩
    · exact absurd hi he
    · have hone : ∀ u ∈ hdC ds, u.oneCell' = true := fun u hu => by
        obtain ⟨r, hr, rfl⟩ := List.mem_map.1 hu
        obtain ⟨a, b, e, _⟩ := c.each r hr
        rw [e]; rfl
      have hcell : ∀ (j : Nat) (u : Value), (hdC ds)[j]? = some u → w.cell? ((⟨c0, o, none⟩ : Addr).add j) = some u := fun j u hu => by
        have hj : j < ds.length := by
          have := (List.getElem?_eq_some_iff.1 hu).1
          rwa [hdC_len] at this
        have ha : (⟨c0, o, none⟩ : Addr).add j = ⟨c0, o + j, none⟩ := by
          unfold Addr.add
          by_cases h : j = 0 <;> simp [h]
        rw [ha, hi.2 j hj, ← hu]
        simp [hdC, hj]
      have hlen : (hdC ds).length = ds.length * 1 := by rw [hdC_len, Nat.mul_one]
      obtain ⟨g, c9, w9, hr, own9, grow9, hg, -⟩ := run_append_lies (P := Try.prog) w 23 23 B 26 i3 (.slice none 0 0) 1 24 Try.underlying23 hi3 hd0 hd1 hd2 rfl (by decide) _ _ _ h ⟨c0, o, none⟩ ds.length k (hdC ds) hlen hcell hone (List.length_pos_iff.2 he) (by unfold maxLen; omega) (by omega) hB w.heap.size rfl
      exact ⟨_, w9, fun ty => hr, own9, grow9⟩
/-- The rows of clauses whose headers were put behind none. -/
theorem owc_behind {w w9 : World} {B C : Nat} {v v9 : Value} {s : Option Addr} {k : Nat} {ds : List LCl} (h : w.ownsRow B 26 1 v 0 []) (h2 : OwC w C (.slice s ds.length k) ds) (hg : w.grownBy w9 v.ownBlock) (own9 : w9.ownsRow B 26 1 v9 ds.length (hdC ds)) (X : Nat) (h3 : X ≤ B) (h4 : X ≤ C) : OwC w9 X v9 ds :=
  ⟨own_mono own9 h3, fun r hr => own_mono ((h2.each r hr).kept hg (own_diff (h2.each r hr) h (by decide))) h4, h2.diff⟩
/-- All but the first of owned clauses. -/
theorem owc_tail {w : World} {C g k : Nat} {ls : List LCl} (h : OwC w C (.slice (some ⟨g, 0, none⟩) ls.length k) ls) (hn : 0 < ls.length) : Cls w (some ⟨g, 1, none⟩) ls.tail := by
  obtain ⟨s, k', e, c⟩ := h.cls
  cases e
  refine ⟨.inr ⟨g, 1, rfl, ?_⟩, fun r hr => c.each r (List.mem_of_mem_tail hr)⟩
  rcases c.row with h0 | ⟨c0, o, e, ha⟩
  · rw [h0] at hn; simp at hn
  · cases e
    refine ⟨ha.1, fun i hi => ?_⟩
    have hi' : i + 1 < ls.length := by rw [List.length_tail] at hi; omega
    have := ha.2 (i + 1) hi'
    rw [show 1 + i = 0 + (i + 1) by omega, this]
    simp

theorem solF_small (css : List (List Int)) (V : Nat) : ∀ (n : Nat) (st : Int) (L : List (List Int)) (D : List Int), (solF css V n st L D).2.1.length ≤ V ∧ (solF css V n st L D).2.2.1.length ≤ L.length + n ∧ ∀ l ∈ (solF css V n st L D).2.2.1, l ∈ L ∨ l.length ≤ D.length + n
  | 0, st, L, D => ⟨Nat.zero_le _, Nat.le_refl _, fun l hl => .inl hl⟩
  | n + 1, st, L, D => by
    unfold solF
    split
    · split
      · exact ⟨trL_len _ _, by simp, fun l hl => .inl hl⟩
      · obtain ⟨h1, h2, h3⟩ := solF_small css V n (st + 1) L (D ++ [(opn (uRun css L D).1 V 1 : Int)])
        refine ⟨h1, by omega, fun l hl => ?_⟩
        rcases h3 l hl with h | h
        · exact .inl h
        · exact .inr (by simp at h; omega)
    · split
      · refine ⟨Nat.zero_le _, by simp, fun l hl => ?_⟩
        rcases List.mem_append.1 hl with h | h
        · exact .inl h
        · rw [List.mem_singleton.1 h, negL_len]; exact .inr (by omega)
      · obtain ⟨h1, h2, h3⟩ := solF_small css V n (st + 1) (L ++ [negL D]) D.dropLast
        refine ⟨h1, by simp at h2; omega, fun l hl => ?_⟩
        rcases h3 l hl with h | h
        · rcases List.mem_append.1 h with h | h
          · exact .inl h
          · rw [List.mem_singleton.1 h, negL_len]; exact .inr (by omega)
        · exact .inr (by simp at h; omega)
theorem solF_lits (css : List (List Int)) (V : Nat) : ∀ (n : Nat) (st : Int) (L : List (List Int)) (D : List Int), SOk css V L D → ∀ l ∈ (solF css V n st L D).2.2.1, ∀ z ∈ l, OkZ (V : Int) z
  | 0, st, L, D, h => h.lm
  | n + 1, st, L, D, h => by
    unfold solF
    split
    · split
      · exact h.lm
      · rename_i h1 h2
        exact solF_lits css V n _ _ _ (h.push h2)
    · split
      · exact h.learn.lm
      · exact solF_lits css V n _ _ _ h.learn
theorem sok_nil {vars : Int} {css : List (List Int)} (h : CnfR vars css) (hw : ∀ l ∈ css, ∀ z ∈ l, wfI z) : SOk css vars.toNat [] [] := by
  have e : ((vars.toNat : Nat) : Int) = vars := by have := h.1.1; omega
  refine ⟨fun l hl z hz => ?_, (fun l hl => by cases hl), fun i hi => absurd hi (Nat.not_lt_zero _)⟩
  rw [e]
  obtain ⟨i, hi, rfl⟩ := List.getElem_of_mem hl
  have hc : ClR vars (css.getD i []) := h.2.2 i hi
  simp only [List.getD_eq_getElem?_getD, List.getElem?_eq_getElem hi, Option.getD_some] at hc
  exact (lv_in h.1.1 h.1.2 (hw _ hl z hz)).1 (hc.2.1 z hz)
/-- What the lemmas of an answer are. -/
theorem solA_lems (vars : Int) (css : List (List Int)) (bud : Int) (hw : ∀ l ∈ css, ∀ z ∈ l, wfI z) : (solA vars css bud).1.2.2.1.length ≤ 1000 ∧ ∀ l ∈ (solA vars css bud).1.2.2.1, l.length ≤ 1000 ∧ ∀ z ∈ l, -100 ≤ z ∧ z ≤ 100 := by
  by_cases h : SolOk vars css bud
  · rw [solA_yes h]
    obtain ⟨h1, h2, h3⟩ := solF_small css vars.toNat bud.toNat 0 [] []
    have h4 := solF_lits css vars.toNat bud.toNat 0 [] [] (sok_nil h.1 hw)
    have a1 := h.1.1.1
    have a2 := h.1.1.2
    have a3 := h.2.1
    have a4 := h.2.2
    refine ⟨by simp only [List.length_nil] at h2 ⊢; omega, fun l hl => ⟨?_, fun z hz => ?_⟩⟩
    · rcases h3 l hl with g | g
      · cases g
      · simp only [List.length_nil] at g; omega
    · have := h4 l hl z hz
      have b1 := this.2.1
      have b2 := this.2.2
      omega
  · rw [solA_no h]; exact ⟨by simp, fun l hl => by cases hl⟩

/-- Lemmas as they are drawn. -/
def LmOk (ls : List LCl) : Prop := ls.length ≤ 1000 ∧ ∀ r ∈ ls, r.2.length ≤ 1000 ∧ ∀ z ∈ r.2, -100 ≤ z ∧ z ≤ 100
def LmOk' (ls : List LCl) : Prop := ls.length ≤ 1001 ∧ ∀ r ∈ ls, r.2.length ≤ 1000 ∧ ∀ z ∈ r.2, wfI z
theorem wrap_hi (n : Int) : wrap64 n ≤ 9223372036854775807 := by unfold wrap64; omega
theorem wrap_lo (n : Int) : -9223372036854775808 ≤ wrap64 n := by unfold wrap64; omega
theorem wf_in {z : Int} (h1 : -9223372036854775808 ≤ z) (h2 : z ≤ 9223372036854775807) : wfI z := by
  unfold wfI
  have e1 : IntKind.i64.min = -9223372036854775808 := by rfl
  have e2 : IntKind.i64.max = 9223372036854775807 := by rfl
  simp only [Lit.wf, e1, e2, Bool.and_eq_true, decide_eq_true_eq]
  omega
theorem wf_wrap (n : Int) : wfI (wrap64 n) := wf_in (wrap_lo n) (wrap_hi n)
theorem LmOk.weak {ls : List LCl} (h : LmOk ls) : LmOk' ls := ⟨by have := h.1; omega, fun r hr => ⟨(h.2 r hr).1, fun z hz => wf_in (by have := (h.2 r hr).2 z hz; omega) (by have := (h.2 r hr).2 z hz; omega)⟩⟩
theorem LmOk.add {ls : List LCl} (h : LmOk ls) {zz : Int} {s : Value} (hz : wfI zz) : LmOk' (ls ++ [(s, [zz])]) := by
  refine ⟨by have := h.1; simp; omega, fun r hr => ?_⟩
  rcases List.mem_append.1 hr with g | g
  · exact h.weak.2 r g
  · rw [List.mem_singleton.1 g]
    exact ⟨by simp, fun z hz' => by rw [List.mem_singleton.1 hz']; exact hz⟩
/-- What DrawUnitRun draws. -/
def DuP (w : World) (e : Ending) (w' : World) : Prop :=
  ∃ (vars : Int) (vs : Option Addr) (vk : Nat) (cs : List LCl) (s : Option Addr) (k : Nat) (ms : List LCl) (ts : Option Addr) (tk : Nat) (T : List Int), e = .returned (.tuple #[CV vars vs cs.length vk, .slice s ms.length k, .slice ts T.length tk]) ∧ (∀ r ∈ cs, r.2.length ≤ 20 ∧ ∀ z ∈ r.2, -100 ≤ z ∧ z ≤ 100) ∧ cs.length ≤ 5000 ∧ LmOk' ms ∧ (T.length ≤ 101 ∧ ∀ z ∈ T, -100 ≤ z ∧ z ≤ 100) ∧ Cls w' vs cs ∧ Cls w' s ms ∧ Ints w' ts T ∧ Below w.heap.size w w'

end Go.Proofs.Ytendehejodgljaa
namespace Go.Proofs.Ytendehejodgljaa
open Go.RowKit
set_option linter.unusedVariables false

theorem cls_at {w : World} {sl : Option Addr} {cs : List LCl} (h : Cls w sl cs) {k : Nat} (hk : k < cs.length) : ∃ (c o : Nat) (s : Option Addr) (kc : Nat), sl = some ⟨c, o, none⟩ ∧ c < w.heap.size ∧ w.cell? ⟨c, o + k, none⟩ = some (.slice s cs[k].2.length kc) ∧ Ints w s cs[k].2 ∧ cs[k].2.length ≤ maxLen := by
  obtain ⟨s, kc, e1, i1, l1⟩ := h.each cs[k] (List.getElem_mem hk)
  rcases h.row with h0 | ⟨c, o, e, ha⟩
  · subst h0; simp at hk
  · exact ⟨c, o, s, kc, e, ha.1, by rw [ha.2 k hk, e1], i1, l1⟩

/-- What lwClause answers. -/
def LcP (l : List Int) (w : World) (e : Ending) (w' : World) : Prop := ∃ (s1 : Option Addr) (k1 : Nat), e = .returned (.slice s1 l.length k1) ∧ Ints w' s1 l ∧ l.length ≤ maxLen ∧ Below w.heap.size w w'

set_option maxRecDepth 100000 in
set_option maxHeartbeats 2000000 in
/-- laws.lwClause, within. -/
theorem lwcl_any (vars : Int) (vs : Option Addr) (vk : Nat) (cs : List LCl) (s : Option Addr) (sk : Nat) (ms : List LCl) (k : Nat) (w : World) (hn : cs.length ≤ 100000) (hm : ms.length ≤ 100000) (hk : k < (cs ++ ms).length) (hc : Cls w vs cs) (hd : Cls w s ms) :
    Calls Try.prog 13 #[CV vars vs cs.length vk, .slice s ms.length sk, .int .i64 (k : Int)] w (LcP (cs ++ ms)[k].2 w) := by
  have B0 := Lib.hid (bA0 w (.cells #[.int .i64 vars, .slice vs cs.length vk] 25))
  have CA := Lib.hid (CnfAt.new w vars vs cs.length vk)
  have hkl : k < cs.length + ms.length := by rwa [List.length_append] at hk
  have h1 : ¬ (k : Int) < 0 := by omega
  have h2 : ¬ ((cs.length : Int) + (ms.length : Int) ≤ (k : Int)) := by omega
  by_cases hk1 : k < cs.length
  · obtain ⟨c, o, s1, k1, rfl, hcw, hcell, hi, hl⟩ := cls_at hc hk1
    have e : (cs ++ ms)[k] = cs[k] := List.getElem_append_left hk1
    rw [e]
    have P : Hid (LcP _ w (.returned (.slice s1 _ k1)) _) := ⟨s1, k1, rfl, hi.below B0.out, hl, B0.out⟩
    have hcell' := ((B0.out.cell (p := ⟨c, o + k, none⟩) hcw).trans hcell)
    have hcw' : c < (w.alloc (.cells #[.int .i64 vars, .slice (some ⟨c, o, none⟩) cs.length vk] 25)).heap.size := by have := B0.out.size; omega
    obtain ⟨t0, t1⟩ := CA.out.cells
    have tl := CA.out.lt
    have h3 : (k : Int) < (cs.length : Int) := by omega
    have hn' : (cs.length : Int) ≤ 100000 := by omega
    have hm' : (ms.length : Int) ≤ 100000 := by omega
    clear hcell hi hl hc hd hn hm hk hkl e CA hcw B0
    generalize cs[k].2 = l at *
    generalize cs.length = n at *
    generalize ms.length = m at *
    go_enter Try.func13, Try.ntmps13
    go_wp2
    go_ret
    exact P.out
  · have hk3 : k - cs.length < ms.length := by omega
    obtain ⟨c, o, s1, k1, rfl, hcw, hcell, hi, hl⟩ := cls_at hd hk3
    have e : (cs ++ ms)[k] = ms[k - cs.length] := List.getElem_append_right (by omega)
    rw [e]
    have P : Hid (LcP _ w (.returned (.slice s1 _ k1)) _) := ⟨s1, k1, rfl, hi.below B0.out, hl, B0.out⟩
    have hcell' := ((B0.out.cell (p := ⟨c, o + (k - cs.length), none⟩) hcw).trans hcell)
    have hcw' : c < (w.alloc (.cells #[.int .i64 vars, .slice vs cs.length vk] 25)).heap.size := by have := B0.out.size; omega
    obtain ⟨t0, t1⟩ := CA.out.cells
    have tl := CA.out.lt
    have h3 : ¬ (k : Int) < (cs.length : Int) := by omega
    have kn1 : ((k : Int) - (cs.length : Int)).toNat = k - cs.length := by omega
    have kn2 : (0 : Int) ≤ (k : Int) - (cs.length : Int) := by omega
    have kn3 : (k : Int) - (cs.length : Int) < (ms.length : Int) := by omega
    have hn' : (cs.length : Int) ≤ 100000 := by omega
    have hm' : (ms.length : Int) ≤ 100000 := by omega
    clear hcell hi hl hc hd hn hm hk hkl e CA hcw B0
    generalize ms[k - cs.length].2 = l at *
    clear hk3
    generalize cs.length = n at *
    generalize ms.length = m at *
    go_enter Try.func13, Try.ntmps13
    go_wp2
    go_ret
    exact P.out

end Go.Proofs.Ytendehejodgljaa
namespace Go.Proofs.Ytendehejodgljaa
open Go.RowKit
set_option linter.unusedVariables false

/-- Where nothing is due any more, every clause has a literal that is not false, and a lone one is true. -/
theorem due_none (tr : List Int) : ∀ (css : List (List Int)) (k : Nat), (dueL tr k css).1 = -1 → ∀ l ∈ css, unitOf tr l = none
  | [], k, _, l, hl => by cases hl
  | a :: r, k, h, l, hl => by
    unfold dueL at h
    cases hu : unitOf tr a with
    | none =>
      simp only [hu] at h
      rcases List.mem_cons.1 hl with rfl | hl
      · exact hu
      · exact due_none tr r (k + 1) h l hl
    | some z =>
      simp only [hu] at h
      omega
/-- The run ends where nothing is due. -/
theorem resF_fix {vars : Int} (css : List (List Int)) (hv : vars ≤ 96) (hw : ∀ l ∈ css, ∀ z ∈ l, OkZ vars z) : ∀ (n : Nat) (tr : List Int), SpTo vars tr tr.length → 97 ≤ tr.length + n → (dueL (resF css n tr).1 0 css).2 = 0 ∧ (resF css n tr).2 = (dueL (resF css n tr).1 0 css).1
  | 0, tr, h, hn => by have := h.short hv; omega
  | n + 1, tr, h, hn => by
    unfold resF
    by_cases hd : (dueL tr 0 css).2 = 0
    · rw [if_pos hd]; exact ⟨hd, rfl⟩
    · rw [if_neg hd]
      obtain ⟨g1, l, g2, g3⟩ := dueL_lit tr css 0 hd
      exact resF_fix css hv hw n _ (h.add (hw l g2 _ g3) (val_zero g1).1 (val_zero g1).2) (by simp; omega)
theorem due_false (tr : List Int) : ∀ (css : List (List Int)) (k : Nat) (j : Nat), dueL tr k css = ((j : Int), 0) → k ≤ j ∧ ∃ h : j - k < css.length, unitOf tr css[j - k] = some 0
  | [], k, j, h => by simp [dueL] at h
  | a :: r, k, j, h => by
    unfold dueL at h
    cases hu : unitOf tr a with
    | none =>
      simp only [hu] at h
      obtain ⟨h1, h2, h3⟩ := due_false tr r (k + 1) j h
      refine ⟨by omega, by simp; omega, ?_⟩
      have e : j - k = (j - (k + 1)) + 1 := by omega
      simp only [e, List.getElem_cons_succ]
      exact h3
    | some z =>
      simp only [hu, Prod.mk.injEq] at h
      obtain ⟨h1, rfl⟩ := h
      obtain rfl : k = j := by omega
      refine ⟨Nat.le_refl _, by simp, ?_⟩
      simp only [Nat.sub_self, List.getElem_cons_zero]
      exact hu
/-- How many literals have no value. -/
noncomputable def opC (T l : List Int) : Nat := (l.filter fun z => decide (val T z = 0)).length
/-- Is one true? -/
def GdL (T l : List Int) : Prop := ∃ z ∈ l, val T z = 1
theorem unit_false {T l : List Int} (hl : ∀ z ∈ l, z ≠ 0) (h : unitOf T l = some 0) : ¬ GdL T l ∧ opC T l = 0 := by
  have hn : nfl T l = [] := by
    unfold unitOf at h
    split at h
    · assumption
    · rename_i z hz
      split at h
      · cases h
        have : (0 : Int) ∈ nfl T l := by rw [hz]; simp
        exact absurd rfl (hl 0 (List.mem_filter.1 this).1)
      · cases h
    · cases h
  have hneg : ∀ z ∈ l, ¬ 0 ≤ val T z := fun z hz g => by
    have : z ∈ nfl T l := List.mem_filter.2 ⟨hz, by simpa using g⟩
    rw [hn] at this; cases this
  refine ⟨fun ⟨z, hz, e⟩ => hneg z hz (by omega), ?_⟩
  unfold opC
  rw [List.length_eq_zero_iff, List.filter_eq_nil_iff]
  intro z hz g
  have := of_decide_eq_true g
  exact hneg z hz (by omega)
theorem unit_fine {T l : List Int} (h : unitOf T l = none) : GdL T l ∨ 2 ≤ opC T l := by
  by_cases hg : GdL T l
  · exact .inl hg
  · refine .inr ?_
    have he : nfl T l = l.filter fun z => decide (val T z = 0) := by
      unfold nfl
      apply List.filter_congr
      intro z hz
      have h1 : val T z ≠ 1 := fun e => hg ⟨z, hz, e⟩
      rcases val_cases T z with ⟨e, _⟩ | ⟨e, _⟩ | ⟨e, _⟩
      · exact absurd e h1
      · simp [e]
      · simp [e]
    unfold opC
    rw [← he]
    unfold unitOf at h
    split at h
    · cases h
    · rename_i z hz
      split at h
      · cases h
      · rename_i hv
        have : z ∈ nfl T l := by rw [hz]; simp
        rw [he] at this
        exact absurd (of_decide_eq_true (List.mem_filter.1 this).2) hv
    · rename_i h1 h2
      match hx : nfl T l with
      | [] => exact absurd hx h1
      | [a] => exact absurd hx (h2 a)
      | a :: c :: r => simp
theorem opC_step (T l : List Int) (k : Nat) (h : k < l.length) : opC T (l.take (k + 1)) = if val T (l.getD k 0) = 0 then opC T (l.take k) + 1 else opC T (l.take k) := by
  rw [take_one l k h]
  unfold opC
  rw [List.filter_append]
  by_cases g : val T (l.getD k 0) = 0
  · rw [if_pos g, List.filter_cons_of_pos (by simpa using g), List.filter_nil, List.length_append]; rfl
  · rw [if_neg g, List.filter_cons_of_neg (by simpa using g), List.filter_nil, List.append_nil]
theorem opC_le (T l : List Int) : opC T l ≤ l.length := List.length_filter_le _ _
theorem GdL_step (T l : List Int) (k : Nat) (h : k < l.length) : GdL T (l.take (k + 1)) ↔ GdL T (l.take k) ∨ val T (l.getD k 0) = 1 := by
  rw [take_one l k h]
  constructor
  · rintro ⟨z, hz, e⟩
    rcases List.mem_append.1 hz with g | g
    · exact .inl ⟨z, g, e⟩
    · rw [List.mem_singleton.1 g] at e; exact .inr e
  · rintro (⟨z, hz, e⟩ | e)
    · exact ⟨z, List.mem_append_left _ hz, e⟩
    · exact ⟨_, List.mem_append_right _ (List.mem_singleton.2 rfl), e⟩
theorem lit_val {vars : Int} {T : List Int} {z : Int} (h0 : 0 ≤ vars) (h1 : vars ≤ 96) (hT : T.length ≤ 400) (hz : OkZ vars z) : litF T z = val T z := by
  rw [litF_short hT]
  have e : wrap64 (-z) = -z := wrap_in _ ⟨by have := hz.2; omega, by have := hz.2; omega⟩
  unfold lvL val
  rw [e]
/-- What the law asks: of a run that is right. -/
structure RunOk (vars : Int) (css dss : List (List Int)) (ts T : List Int) (conf : Int) : Prop where
  pre : ∃ fl, T = ts ++ fl
  right : TrR vars css T
  lits : ∀ l ∈ css ++ dss, ∀ z ∈ l, litF T z = val T z
  fals : ∀ k (h : k < (css ++ dss).length), conf = (k : Int) → ¬ GdL T (css ++ dss)[k] ∧ opC T (css ++ dss)[k] = 0
  fine : conf = -1 → ∀ l ∈ css ++ dss, GdL T l ∨ 2 ≤ opC T l
theorem run_ok {vars : Int} {css dss : List (List Int)} {ts : List Int} (hw : ∀ l ∈ css, ∀ z ∈ l, wfI z) (h : (uAll vars css dss ts).2.2 = 0) : RunOk vars css dss ts (uAll vars css dss ts).1 (uAll vars css dss ts).2.1 := by
  by_cases hb : UBig dss ts
  · rw [uAll_big hb] at h; cases h
  by_cases ho : UOk vars css dss ts
  · rw [uAll_yes hb ho]
    show RunOk vars css dss ts (uRun css dss ts).1 (uRun css dss ts).2
    have h0 := ho.1.1.1
    have h1 := ho.1.1.2
    have hl : ∀ l ∈ css ++ dss, ∀ z ∈ l, OkZ vars z := fun l hl => by
      rcases List.mem_append.1 hl with g | g
      · exact cnfR_lits ho.1 hw l g
      · exact moR_lits ho.2.1 l g
    have hs := ho.2.2.short h1
    obtain ⟨f1, f2⟩ := resF_fix (css ++ dss) h1 hl (97 - ts.length) ts ho.2.2 (by omega)
    have hsp := resF_sp (css ++ dss) hl (97 - ts.length) ts ho.2.2
    have hT : (uRun css dss ts).1.length ≤ 400 := by have := hsp.short h1; unfold uRun; omega
    refine ⟨resF_ext _ _ _, ⟨hT, ho.1, hsp⟩, fun l hl' z hz => lit_val h0 h1 hT (hl l hl' z hz), fun k hk e => ?_, fun e l hl' => unit_fine (due_none _ _ 0 (f2.symm.trans e) l hl')⟩
    have hd : dueL (uRun css dss ts).1 0 (css ++ dss) = ((k : Int), 0) := Prod.ext (f2.symm.trans e) f1
    obtain ⟨_, g1, g2⟩ := due_false _ _ 0 k hd
    exact unit_false (fun z hz => (hl _ (List.getElem_mem hk) z hz).1) g2
  · rw [uAll_no hb ho] at h; cases h

end Go.Proofs.Ytendehejodgljaa
namespace Go.Proofs.Ytendehejodgljaa
open Go.RowKit
set_option linter.unusedVariables false

/-- Numbers put behind numbers: both ways of it. -/
theorem appZD {w : World} {B : Nat} {v : Value} {zs : List Int} (h : w.ownsRow B 2 1 v zs.length (valsZ zs)) {s : Option Addr} {r : List Int} (k : Nat) (hi : Ints w s r) (hB : B ≤ w.heap.size) (hl : zs.length + r.length ≤ 10000000) :
    ∃ v9 w9, (∀ ty, (Builtin.append_ #[26, 26] ty #[v, .slice s r.length k]).run Try.prog w = .ok v9 w9) ∧ w9.ownsRow B 2 1 v9 (zs ++ r).length (valsZ (zs ++ r)) ∧ w.grownBy w9 v.ownBlock ∧ ∀ j, v.ownBlock = some j → B ≤ j := by
  obtain ⟨i3, hi3, hd0, hd1, hd2⟩ := info_parts info2'
  have hlo : ∀ j, v.ownBlock = some j → B ≤ j := fun j hj => (h.lt j hj).1
  obtain ⟨sl, cap, rfl⟩ := own_v h
  by_cases he : r = []
  · subst he
    exact ⟨_, w, fun ty => app_none40 w ty sl zs.length cap (own_cap8 h) s k, by rw [List.append_nil]; exact h, ⟨rfl, rfl, rfl, Nat.le_refl _, fun _ _ _ => rfl⟩, hlo⟩
  · rcases hi with hi | ⟨c, o, rfl, hi⟩
    · exact absurd hi he
    · obtain ⟨g, c9, w9, hr, own9, grow9, hg, -⟩ := run_append_lies (P := Try.prog) w 26 26 B 2 i3 (.int .i64 0) 1 8 Try.underlying26 hi3 hd0 hd1 hd2 rfl (by decide) _ _ _ h ⟨c, o, none⟩ r.length k (valsZ r) (valsZ_len1 r) (int_cells hi) (valsZ_one r) (List.length_pos_iff.2 he) (by unfold maxLen; omega) (by omega) hB w.heap.size rfl
      exact ⟨_, w9, fun ty => hr, by rw [List.length_append, show valsZ (zs ++ r) = valsZ zs ++ valsZ r by simp [valsZ]]; exact own9, grow9, hlo⟩

set_option maxRecDepth 100000 in
set_option maxHeartbeats 2000000 in
/-- laws.lwCopy. -/
theorem lwc_any (sl : Option Addr) (cap : Nat) (zs : List Int) (w : World) (hn : zs.length ≤ 1048576) (hz : Ints w sl zs) :
    Calls Try.prog 10 #[.slice sl zs.length cap] w fun e w' => ∃ v, e = .returned v ∧ w'.ownsRow w.heap.size 2 1 v zs.length (valsZ zs) ∧ Below w.heap.size w w' := by
  have B0 := Lib.hid (bA0 w (.cells #[] 2))
  obtain ⟨v9, w9, ha, ow, gr, hj⟩ := appZD (zs := []) (own_none8 w) cap (hz.below B0.out) B0.out.size (by simp; omega)
  have ha' := ha 26
  have O9 : Hid (w9.ownsRow w.heap.size 2 1 v9 zs.length (valsZ zs)) := by
    have := ow
    rwa [List.nil_append] at this
  have B9 := Lib.hid (B0.out.grown gr B0.out.size hj)
  clear ha ow gr hj hz B0
  generalize zs.length = n at *
  go_enter Try.func10, Try.ntmps10
  go_wp2_with (at_builtin; refine Lib.wpList_append_run _ rfl _ _ _ _ rfl _ _ rfl rfl _ _ ha' ?_)
  go_ret
  exact ⟨_, rfl, O9.out, B9.out⟩

set_option maxRecDepth 100000 in
set_option maxHeartbeats 2000000 in
/-- laws.lwSame, of the same numbers twice. -/
theorem lws_any (sl sl' : Option Addr) (cap cap' : Nat) (zs : List Int) (w : World) (hn : zs.length ≤ maxLen) (hz : Ints w sl zs) (hz' : Ints w sl' zs) :
    Calls Try.prog 11 #[.slice sl zs.length cap, .slice sl' zs.length cap'] w fun e w' => e = .returned (.bool true) ∧ Below w.heap.size w w' := by
  unfold maxLen at hn
  have HZ := Lib.hid hz
  have HZ' := Lib.hid hz'
  clear hz hz'
  generalize hN : zs.length = n at *
  have HN := Lib.hid hN
  clear hN
  go_enter Try.func11, Try.ntmps11
  go_wp2
  go_loopw [5] (fun i wr => ∃ k : Nat, i = .int .i64 k ∧ k ≤ n ∧ Hid (Below w.heap.size w wr)) (fun i _ => n - (intOf i).toNat)
  case atStart => exact ⟨0, rfl, Nat.zero_le _, Below.refl _ _⟩
  case round =>
    obtain ⟨k, rfl, hk, H2⟩ := hrel
    have hk0 : (0 : Int) ≤ (k : Int) := by omega
    by_cases g1 : k < n
    · have g1' : (k : Int) < (n : Int) := by omega
      have hlt : k < zs.length := by rw [HN.out]; exact g1
      obtain ⟨c, o, rfl, Z0⟩ : ∃ c o, sl = some ⟨c, o, none⟩ ∧ IntsAt w c o zs := by
        rcases HZ.out with e | h
        · rw [e] at hlt; simp at hlt
        · exact h
      obtain ⟨c', o', rfl, Z0'⟩ : ∃ c o, sl' = some ⟨c, o, none⟩ ∧ IntsAt w c o zs := by
        rcases HZ'.out with e | h
        · rw [e] at hlt; simp at hlt
        · exact h
      have KS : Hid ((c < wr.drew.heap.size ∧ wr.drew.cell? ⟨c, o + k, none⟩ = some (.int .i64 (zs.getD k 0))) ∧ c' < wr.drew.heap.size ∧ wr.drew.cell? ⟨c', o' + k, none⟩ = some (.int .i64 (zs.getD k 0))) :=
        ⟨⟨Nat.lt_of_lt_of_le Z0.1 H2.out.drew.size, (H2.out.drew.cell (p := ⟨c, o + k, none⟩) Z0.1).trans (Z0.2 k hlt)⟩, Nat.lt_of_lt_of_le Z0'.1 H2.out.drew.size, (H2.out.drew.cell (p := ⟨c', o' + k, none⟩) Z0'.1).trans (Z0'.2 k hlt)⟩
      have D2 := Lib.hid H2.out.drew
      generalize zs.getD k 0 = a at *
      clear Z0 Z0' hlt
      go_wp2_with fail
      refine wp_region_held_drew (S := fun W => (c < W.heap.size ∧ W.cell? ⟨c, o + k, none⟩ = some (.int .i64 a)) ∧ c' < W.heap.size ∧ W.cell? ⟨c', o' + k, none⟩ = some (.int .i64 a)) (by kernel_rfl) ?_ (fun hHeld => ?_)
      · exact KS.out
      refine wpAnyH_take (i := 0) (oi := _) (v := ?_) rfl (by kernel_rfl) (by kernel_rfl) (by kernel_rfl) (fun _ _ _ h => h) (Or.inl ⟨by rfl, ?_⟩) (by assumption) ?_
      rotate_left
      · first | (intro w hSw; (try dsimp only at hSw); go_simp; done) | (intro w hSw; (try dsimp only at hSw); go_simp; with_reducible rfl)
      try simp only [Act.put, List.setIfInBounds_toArray, List.set_cons_zero, List.set_cons_succ, List.getElem_toArray, List.getElem_cons_zero]
      refine wpAnyH_take (i := 1) (oi := _) (v := ?_) rfl (by kernel_rfl) (by kernel_rfl) (by kernel_rfl) (fun _ _ _ h => h) (Or.inl ⟨by rfl, ?_⟩) (by assumption) ?_
      rotate_left
      · first | (intro w hSw; (try dsimp only at hSw); go_simp; done) | (intro w hSw; (try dsimp only at hSw); go_simp; with_reducible rfl)
      try simp only [Act.put, List.setIfInBounds_toArray, List.set_cons_zero, List.set_cons_succ, List.getElem_toArray, List.getElem_cons_succ, List.getElem_cons_zero]
      refine wpAnyH_take (i := 2) (oi := _) (v := ?_) rfl (by kernel_rfl) (by kernel_rfl) (by kernel_rfl) (fun _ _ _ h => h) (Or.inl ⟨by rfl, ?_⟩) (by assumption) ?_
      rotate_left
      · first | (intro w hSw; (try dsimp only at hSw); go_simp; done) | (intro w hSw; (try dsimp only at hSw); go_simp; with_reducible rfl)
      try simp only [Act.put, List.setIfInBounds_toArray, List.set_cons_zero, List.set_cons_succ, List.getElem_toArray, List.getElem_cons_succ, List.getElem_cons_zero]
      refine wpAnyH_take (i := 3) (oi := _) (v := ?_) rfl (by kernel_rfl) (by kernel_rfl) (by kernel_rfl) (fun _ _ _ h => h) (Or.inl ⟨by rfl, ?_⟩) (by assumption) ?_
      rotate_left
      · first | (intro w hSw; (try dsimp only at hSw); go_simp; done) | (intro w hSw; (try dsimp only at hSw); go_simp; with_reducible rfl)
      try simp only [Act.put, List.setIfInBounds_toArray, List.set_cons_zero, List.set_cons_succ, List.getElem_toArray, List.getElem_cons_succ, List.getElem_cons_zero]
      refine wpAnyH_take (i := 4) (oi := _) (v := ?_) rfl (by kernel_rfl) (by kernel_rfl) (by kernel_rfl) (fun _ _ _ h => h) (Or.inl ⟨by rfl, ?_⟩) (by assumption) ?_
      rotate_left
      · first | (intro w hSw; (try dsimp only at hSw); go_simp; done) | (intro w hSw; (try dsimp only at hSw); go_simp; with_reducible rfl)
      try simp only [Act.put, List.setIfInBounds_toArray, List.set_cons_zero, List.set_cons_succ, List.getElem_toArray, List.getElem_cons_succ, List.getElem_cons_zero]
      refine wpAnyH_take (i := 5) (oi := _) (v := ?_) rfl (by kernel_rfl) (by kernel_rfl) (by kernel_rfl) (fun _ _ _ h => h) (Or.inl ⟨by rfl, ?_⟩) (by assumption) ?_
      rotate_left
      · first | (intro w hSw; (try dsimp only at hSw); go_simp; done) | (intro w hSw; (try dsimp only at hSw); go_simp; with_reducible rfl)
      try simp only [Act.put, List.setIfInBounds_toArray, List.set_cons_zero, List.set_cons_succ, List.getElem_toArray, List.getElem_cons_succ, List.getElem_cons_zero]
      refine wpAnyH_take (i := 6) (oi := _) (v := ?_) rfl (by kernel_rfl) (by kernel_rfl) (by kernel_rfl) (fun _ _ _ h => h) (Or.inl ⟨by rfl, ?_⟩) (by assumption) ?_
      rotate_left
      · first | (intro w hSw; (try dsimp only at hSw); go_simp; done) | (intro w hSw; (try dsimp only at hSw); go_simp; with_reducible rfl)
      try simp only [Act.put, List.setIfInBounds_toArray, List.set_cons_zero, List.set_cons_succ, List.getElem_toArray, List.getElem_cons_succ, List.getElem_cons_zero]
      refine wpAnyH_take (i := 7) (oi := _) (v := ?_) rfl (by kernel_rfl) (by kernel_rfl) (by kernel_rfl) (fun _ _ _ h => h) (Or.inl ⟨by rfl, ?_⟩) (by assumption) ?_
      rotate_left
      · first | (intro w hSw; (try dsimp only at hSw); go_simp; done) | (intro w hSw; (try dsimp only at hSw); go_simp; with_reducible rfl)
      try simp only [Act.put, List.setIfInBounds_toArray, List.set_cons_zero, List.set_cons_succ, List.getElem_toArray, List.getElem_cons_succ, List.getElem_cons_zero]
      refine wpAnyH_take (i := 8) (oi := _) (v := ?_) rfl (by kernel_rfl) (by kernel_rfl) (by kernel_rfl) (fun _ _ _ h => h) (Or.inl ⟨by rfl, ?_⟩) (by assumption) ?_
      rotate_left
      · first | (intro w hSw; (try dsimp only at hSw); go_simp; done) | (intro w hSw; (try dsimp only at hSw); go_simp; with_reducible rfl)
      try simp only [Act.put, List.setIfInBounds_toArray, List.set_cons_zero, List.set_cons_succ, List.getElem_toArray, List.getElem_cons_succ, List.getElem_cons_zero]
      refine wpAnyH_done (by kernel_rfl) ?_ _
      clear KS
      go_wp2
      go_roundw
      case rel => exact ⟨k + 1, by go_num, by omega, D2⟩
      case measure => simp [intOf]; omega
    · have g1' : ¬ (k : Int) < (n : Int) := by omega
      go_wp2
      go_ret
      exact ⟨rfl, H2.out⟩


end Go.Proofs.Ytendehejodgljaa
