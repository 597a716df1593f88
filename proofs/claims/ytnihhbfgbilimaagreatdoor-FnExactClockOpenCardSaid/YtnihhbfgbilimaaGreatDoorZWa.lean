import Derived.Test.YtnihhbfgbilimaaGreatDoorVad
import Derived.Test.YtnihhbfgbilimaaGreatDoorPq
import Derived.Deep.RegionLaw
import Derived.Deep.DeepCutAuto
import Derived.Shelf.Spec.TrailingZeros
import Derived.ChangeSame
import Derived.ChangeSlices
import Derived.ChangeArms
import Derived.Deep.Strs
import Derived.Deep.Slices
import Derived.Recover
import Derived.Laws.CopyOwn
namespace Go.Proofs.YtnihhbfgbilimaaGreatDoor
open Go.RowKit
set_option linter.unusedVariables false
noncomputable def trL (T : List Int) : Nat → List Int
 | 0 => []
 | n + 1 => if val T ((n : Int) + 1) = 1 then trL T n ++ [(n : Int) + 1] else trL T n
theorem trL_yes {T : List Int} {n : Nat} (h : val T ((n : Int) + 1) = 1) : trL T (n + 1) = trL T n ++ [(n : Int) + 1] := by rw [trL, if_pos h]
theorem trL_no {T : List Int} {n : Nat} (h : ¬ val T ((n : Int) + 1) = 1) : trL T (n + 1) = trL T n := by rw [trL, if_neg h]
theorem trL_len (T : List Int) : ∀ n, (trL T n).length ≤ n
 | 0 => Nat.le_refl _
 | n + 1 => by
  have := trL_len T n
  unfold trL
  split
  ·simp; omega
  ·omega
theorem dueL_sign (tr : List Int) : ∀ (css : List (List Int)) (k : Nat), (dueL tr k css).1 = -1 ∨ 0 ≤ (dueL tr k css).1
 | [], k => .inl rfl
 | l :: r, k => by
  unfold dueL
  cases unitOf tr l with
  | none => exact dueL_sign tr r (k + 1)
  | some z => exact .inr (by simp only []; omega)
theorem resF_sign (css : List (List Int)) : ∀ (n : Nat) (tr : List Int), (resF css n tr).2 = -1 ∨ 0 ≤ (resF css n tr).2
 | 0, tr => .inl rfl
 | n + 1, tr => by
  unfold resF
  split
  ·exact dueL_sign tr css 0
  ·exact resF_sign css n _
def negL (D : List Int) : List Int := D.map fun z => -z
theorem negL_len (D : List Int) : (negL D).length = D.length := by simp [negL]
noncomputable def solF (css : List (List Int)) (V : Nat) : Nat → Int → List (List Int) → List Int → Int × List Int × List (List Int) × Int
 | 0, st, L, _ => (3, [], L, st)
 | n + 1, st, L, D =>
  if (uRun css L D).2 = -1 then
   if opn (uRun css L D).1 V 1 = 0 then (1, trL (uRun css L D).1 V, L, st + 1) else solF css V n (st + 1) L (D ++ [(opn (uRun css L D).1 V 1 : Int)])
  else if D.length = 0 then (2, [], L ++ [negL D], st + 1) else solF css V n (st + 1) (L ++ [negL D]) D.dropLast
section
variable {css : List (List Int)} {V n : Nat} {st : Int} {L : List (List Int)} {D : List Int}
theorem solF_stop (hn : n = 0) : solF css V n st L D = (3, [], L, st) := by subst hn; rfl
theorem solF_yes (hn : 0 < n) (h : (uRun css L D).2 = -1) (h2 : opn (uRun css L D).1 V 1 = 0) : solF css V n st L D = (1, trL (uRun css L D).1 V, L, st + 1) := by
 obtain ⟨m, rfl⟩ : ∃ m, n = m + 1 := ⟨n - 1, by omega⟩
 rw [solF, if_pos h, if_pos h2]
theorem solF_push (hn : 0 < n) (h : (uRun css L D).2 = -1) (h2 : ¬ opn (uRun css L D).1 V 1 = 0) : solF css V n st L D = solF css V (n - 1) (st + 1) L (D ++ [(opn (uRun css L D).1 V 1 : Int)]) := by
 obtain ⟨m, rfl⟩ : ∃ m, n = m + 1 := ⟨n - 1, by omega⟩
 rw [solF, if_pos h, if_neg h2]
 rfl
theorem solF_no (hn : 0 < n) (h : ¬ (uRun css L D).2 = -1) (h2 : D.length = 0) : solF css V n st L D = (2, [], L ++ [negL D], st + 1) := by
 obtain ⟨m, rfl⟩ : ∃ m, n = m + 1 := ⟨n - 1, by omega⟩
 rw [solF, if_neg h, if_pos h2]
theorem solF_pop (hn : 0 < n) (h : ¬ (uRun css L D).2 = -1) (h2 : ¬ D.length = 0) : solF css V n st L D = solF css V (n - 1) (st + 1) (L ++ [negL D]) D.dropLast := by
 obtain ⟨m, rfl⟩ : ∃ m, n = m + 1 := ⟨n - 1, by omega⟩
 rw [solF, if_neg h, if_neg h2]
 rfl
end
theorem sp_ok {vars : Int} {D : List Int} (h : SpTo vars D D.length) : ∀ z ∈ D, OkZ vars z := by
 intro z hz
 obtain ⟨i, hi, rfl⟩ := List.getElem_of_mem hz
 have := (h i hi).1
 simpa [hi] using this
theorem SOk.learn {css : List (List Int)} {V : Nat} {L : List (List Int)} {D : List Int} (h : SOk css V L D) : SOk css V (L ++ [negL D]) D.dropLast := by
 refine ⟨h.cl, fun l hl z hz => ?_, fun i hi => ?_⟩
 ·rcases List.mem_append.1 hl with h1 | h1
  ·exact h.lm l h1 z hz
  ·rw [List.mem_singleton.1 h1] at hz
   obtain ⟨y, hy, rfl⟩ := List.mem_map.1 hz
   obtain ⟨o1, o2, o3⟩ := sp_ok h.ds y hy
   exact ⟨by omega, by omega, by omega⟩
 ·have hi' : i < D.length - 1 := by simpa using hi
  have hg : ∀ j, j < D.length - 1 → D.dropLast.getD j 0 = D.getD j 0 := fun j hj => by
   have hj2 : j < D.length := by omega
   simp [hj, hj2]
  have := h.ds i (by omega)
  rw [hg i hi']
  refine ⟨this.1, fun j hj => ?_⟩
  rw [hg j (by omega), hg i hi']
  exact this.2 j hj
theorem owc_box {W : World} {C : Nat} {v : Value} {cs : List LCl} {X : Nat} {us : Array Value} {t : TypeId} (h : OwC W C v cs) (hx : W.heap[X]? = some (.cells us t)) (h1 : t ≠ 34) (h2 : t ≠ 2) (i : Nat) (u : Value) : OwC (W.setCell ⟨X, i, none⟩ u) C v cs :=
 ⟨own_box h.row hx h1 i u, fun r hr => own_box (h.each r hr) hx h2 i u, h.diff⟩
theorem own_only {B : Nat} {e : TypeId} {m : Nat} {v : Value} {n : Nat} {xs : List Value} {b : Nat} {w w' : World} {us : Array Value} {t : TypeId} (h : w.ownsRow B e m v n xs) (ho : Only b w w') (hx : w.heap[b]? = some (.cells us t)) (hne : t ≠ e) : w'.ownsRow B e m v n xs := by
 refine ⟨h.1, ?_⟩
 rcases h.2 with h | ⟨g, cap, cur, hv, hg, hh, r⟩
 ·exact .inl h
 ·refine .inr ⟨g, cap, cur, hv, hg, (ho.block g (Array.getElem?_eq_some_iff.1 hh).1 ?_).trans hh, r⟩
  intro e'
  rw [e', hx] at hh
  cases hh
  exact hne rfl
theorem owc_only {B : Nat} {v : Value} {cs : List LCl} {b : Nat} {w w' : World} {us : Array Value} {t : TypeId} (h : OwC w B v cs) (ho : Only b w w') (hx : w.heap[b]? = some (.cells us t)) (h1 : t ≠ 34) (h2 : t ≠ 2) : OwC w' B v cs :=
 ⟨own_only h.row ho hx h1, fun r hr => own_only (h.each r hr) ho hx h2, h.diff⟩
abbrev SF (V bud st : Int) (vc vl vd : Value) : List Value := [.int .i64 V, .int .i64 bud, .int .i64 st, vc, vl, vd]
theorem appH {w : World} {B : Nat} {v : Value} {us : List Value} (h : w.ownsRow B 34 1 v us.length us) (u : Value) (hu : u.oneCell' = true) (c : Nat) (hc : ∀ (j : Nat) (x : Value), [u][j]? = some x → w.cell? ((⟨c, 0, none⟩ : Addr).add j) = some x) (hB : B ≤ w.heap.size) (hl : us.length ≤ 100000) :
  ∃ v9 w9, (∀ ty, (Builtin.append_ #[31, 31] ty #[v, .slice (some ⟨c, 0, none⟩) 1 1]).run Tryz.prog w = .ok v9 w9) ∧ w9.ownsRow B 34 1 v9 (us.length + 1) (us ++ [u]) ∧ w.grownBy w9 v.ownBlock := by
 obtain ⟨i3, hi3, hd0, hd1, hd2⟩ := info_parts info40
 obtain ⟨g, c9, w9, hr, own9, grow9, hg, -⟩ := run_append_lies (P := Tryz.prog) w 31 31 B 34 i3 (.slice none 0 0) 1 24 Tryz.underlying31 hi3 hd0 hd1 hd2 rfl (by decide) _ _ _ h ⟨c, 0, none⟩ 1 1 [u] rfl hc (by intro x hx; rw [List.mem_singleton.1 hx]; exact hu) (by decide) (by unfold maxLen; omega) (by omega) hB w.heap.size rfl
 exact ⟨_, w9, fun ty => hr, own9, grow9⟩
def K30 (w0 W : World) : Prop := ∀ (k : Nat) (us : Array Value), w0.heap[k]? = some (.cells us 107) → W.heap[k]? = some (.cells us 107)
theorem K30.refl (W : World) : K30 W W := fun _ _ h => h
theorem K30.below {w0 W W' : World} (h : K30 w0 W) (hb : Below W.heap.size W W') : K30 w0 W' := fun k us hk => by
 have := h k us hk
 exact (hb.block k (Array.getElem?_eq_some_iff.1 this).1).trans this
theorem K30.only {w0 W W' : World} {b : Nat} {us : Array Value} {t : TypeId} (h : K30 w0 W) (ho : Only b W W') (hx : W.heap[b]? = some (.cells us t)) (ht : t ≠ 107) : K30 w0 W' := fun k us hk => by
 have := h k us hk
 refine (ho.block k (Array.getElem?_eq_some_iff.1 this).1 (fun e => ?_)).trans this
 rw [e, hx] at this
 cases this
 exact ht rfl
theorem K30.set {w0 W : World} {b : Nat} {us : Array Value} {t : TypeId} (h : K30 w0 W) (hx : W.heap[b]? = some (.cells us t)) (ht : t ≠ 107) (i : Nat) (v : Value) : K30 w0 (W.setCell ⟨b, i, none⟩ v) := h.only ((Only.refl b W).setCell i v) hx ht
theorem K30.grown {w0 W W' : World} {B : Nat} {e : TypeId} {m : Nat} {v : Value} {n : Nat} {xs : List Value} (h : K30 w0 W) (hv : W.ownsRow B e m v n xs) (he : e ≠ 107) (hg : W.grownBy W' v.ownBlock) : K30 w0 W' := fun k us hk => by
 have := h k us hk
 refine (hg.block k (Array.getElem?_eq_some_iff.1 this).1 (fun e' => ?_)).trans this
 obtain ⟨cur, hc⟩ := own_kind hv e'.symm
 rw [hc] at this
 cases this
 exact he rfl
section
variable {w w0 : World} {b : Nat} {V bud st : Int} {ms ls : List LCl} {D tr : List Int} {vc vl vd : Value} {W W' : World}
end
theorem cells5 {W : World} {b : Nat} {v0 v1 v2 v3 v4 : Value} {t : TypeId} (h : W.heap[b]? = some (.cells #[v0, v1, v2, v3, v4] t)) : W.cell? ⟨b, 0, none⟩ = some v0 ∧ W.cell? ⟨b, 1, none⟩ = some v1 ∧ W.cell? ⟨b, 2, none⟩ = some v2 ∧ W.cell? ⟨b, 3, none⟩ = some v3 ∧ W.cell? ⟨b, 4, none⟩ = some v4 := by
 refine ⟨?_, ?_, ?_, ?_, ?_⟩ <;> simp [World.cell?, h]
abbrev Res := Int × List Int × List (List Int) × Int
section
variable {w : World} {cs : List LCl} {V bud : Nat} {R : Res} {st : Nat} {ms ls : List LCl} {D : List Int}
end
def BoxO (w : World) (b : Nat) : Prop := w.heap[b]? = some (.cells #[.int .i64 0, .slice none 0 0, .slice none 0 0, .int .i64 0, .int .i64 0] 107)
theorem BoxO.facts {w : World} {b : Nat} (h : BoxO w b) : b < w.heap.size ∧ w.cell? ⟨b, 0, none⟩ = some (.int .i64 0) ∧ w.cell? ⟨b, 1, none⟩ = some (.slice none 0 0) ∧ w.cell? ⟨b, 2, none⟩ = some (.slice none 0 0) ∧ w.cell? ⟨b, 3, none⟩ = some (.int .i64 0) ∧ w.cell? ⟨b, 4, none⟩ = some (.int .i64 0) ∧ w.frozen? ⟨b, 0, none⟩ = false ∧ w.frozen? ⟨b, 1, none⟩ = false ∧ w.frozen? ⟨b, 2, none⟩ = false ∧ w.frozen? ⟨b, 3, none⟩ = false ∧ w.frozen? ⟨b, 4, none⟩ = false := by
 unfold BoxO at h
 obtain ⟨e0, e1, e2, e3, e4⟩ := cells5 h
 exact ⟨(Array.getElem?_eq_some_iff.1 h).1, e0, e1, e2, e3, e4, by simp [World.frozen?, h], by simp [World.frozen?, h], by simp [World.frozen?, h], by simp [World.frozen?, h], by simp [World.frozen?, h]⟩
theorem BoxO.below {w w' : World} {b : Nat} (h : BoxO w b) (hb : Below w.heap.size w w') : BoxO w' b := (hb.block b h.facts.1).trans h
def set5 (w : World) (b : Nat) (v0 v1 v2 v3 v4 : Value) : World := ((((w.setCell ⟨b, 0, none⟩ v0).setCell ⟨b, 1, none⟩ v1).setCell ⟨b, 2, none⟩ v2).setCell ⟨b, 3, none⟩ v3).setCell ⟨b, 4, none⟩ v4
section
variable {w : World} {b : Nat} {us : Array Value} {v0 v1 v2 v3 v4 : Value}
theorem set5_at (h : w.heap[b]? = some (.cells #[.int .i64 0, .slice none 0 0, .slice none 0 0, .int .i64 0, .int .i64 0] 107)) : (set5 w b v0 v1 v2 v3 v4).heap[b]? = some (.cells #[v0, v1, v2, v3, v4] 107) :=
 heap_setCell_same _ b 4 _ 107 v4 (heap_setCell_same _ b 3 _ 107 v3 (heap_setCell_same _ b 2 _ 107 v2 (heap_setCell_same _ b 1 _ 107 v1 (heap_setCell_same w b 0 _ 107 v0 h))))
theorem set5_only (w : World) (b : Nat) (v0 v1 v2 v3 v4 : Value) : Only b w (set5 w b v0 v1 v2 v3 v4) := (((((Only.refl b w).setCell 0 v0).setCell 1 v1).setCell 2 v2).setCell 3 v3).setCell 4 v4
end
structure SoV (B : Nat) (R : Res) (vt vl : Value) (ls : List LCl) (W : World) : Prop where
 tr : W.ownsRow B 2 1 vt R.2.1.length (valsZ R.2.1)
 ol : OwC W B vl ls
 eq : bareC ls = R.2.2.1
 ap : ∀ r ∈ ls, ∀ j, r.1.ownBlock = some j → vt.ownBlock ≠ some j
theorem SoV.only {B : Nat} {R : Res} {vt vl : Value} {ls : List LCl} {W W' : World} {b : Nat} {us : Array Value} (h : SoV B R vt vl ls W) (ho : Only b W W') (hx : W.heap[b]? = some (.cells us 107)) : SoV B R vt vl ls W' :=
 ⟨own_only h.tr ho hx (by decide), owc_only h.ol ho hx (by decide) (by decide), h.eq, h.ap⟩
theorem SoV.below {B : Nat} {R : Res} {vt vl : Value} {ls : List LCl} {W W' : World} (h : SoV B R vt vl ls W) (hb : Below W.heap.size W W') : SoV B R vt vl ls W' :=
 ⟨own_below h.tr hb, h.ol.below hb, h.eq, h.ap⟩
theorem K30.trans {a b c : World} (h : K30 a b) (g : K30 b c) : K30 a c := fun k us hk => g k us (h k us hk)
def SolOk (vars : Int) (css : List (List Int)) (bud : Int) : Prop := CnfR vars css ∧ 0 ≤ bud ∧ bud ≤ 300
noncomputable def solA (vars : Int) (css : List (List Int)) (bud : Int) : Res × Int := if B (SolOk vars css bud) = true then (solF css vars.toNat bud.toNat 0 [] [], 0) else ((0, [], [], 0), 1)
theorem solA_yes {vars : Int} {css : List (List Int)} {bud : Int} (h : SolOk vars css bud) : solA vars css bud = (solF css vars.toNat bud.toNat 0 [] [], 0) := by unfold solA; rw [B_yes h]; rfl
theorem solA_no {vars : Int} {css : List (List Int)} {bud : Int} (h : ¬ SolOk vars css bud) : solA vars css bud = ((0, [], [], 0), 1) := by unfold solA; rw [B_no h]; rfl
def SPost (w : World) (A : Res × Int) (e : Ending) (w' : World) : Prop := ∃ (vt vl : Value) (ls : List LCl), e = .returned (.agg #[.int .i64 A.1.1, vt, vl, .int .i64 A.1.2.2.2, .int .i64 A.2]) ∧ SoV w.heap.size A.1 vt vl ls w' ∧ Below w.heap.size w w'
structure RunJ (css : List (List Int)) (V bud : Nat) (R : Res) (st : Nat) (L : List (List Int)) (D : List Int) : Prop where
 ok : SOk css V L D
 few : L.length ≤ st
 le : st ≤ bud
 run : solF css V (bud - st) st L D = R
section
variable {css : List (List Int)} {V bud : Nat} {R : Res} {st : Nat} {L : List (List Int)} {D : List Int}
theorem RunJ.stop (h : RunJ css V bud R st L D) (e : st = bud) : R = (3, [], L, (st : Int)) := by
 rw [← h.run]; exact solF_stop (by omega)
theorem RunJ.yes (h : RunJ css V bud R st L D) (e : ¬ st = bud) (h1 : (uRun css L D).2 = -1) (h2 : opn (uRun css L D).1 V 1 = 0) : R = (1, trL (uRun css L D).1 V, L, (st : Int) + 1) := by
 have := h.le
 rw [← h.run]; exact solF_yes (by omega) h1 h2
theorem RunJ.push (h : RunJ css V bud R st L D) (e : ¬ st = bud) (h1 : (uRun css L D).2 = -1) (h2 : ¬ opn (uRun css L D).1 V 1 = 0) : RunJ css V bud R (st + 1) L (D ++ [((opn (uRun css L D).1 V 1 : Nat) : Int)]) := by
 have hl := h.le
 have hf := h.few
 refine ⟨h.ok.push h2, by omega, by omega, ?_⟩
 rw [← h.run, solF_push (n := bud - st) (by omega) h1 h2, show bud - st - 1 = bud - (st + 1) by omega]
 rfl
theorem RunJ.no (h : RunJ css V bud R st L D) (e : ¬ st = bud) (h1 : ¬ (uRun css L D).2 = -1) (h2 : D.length = 0) : R = (2, [], L ++ [negL D], (st : Int) + 1) := by
 have := h.le
 rw [← h.run]; exact solF_no (by omega) h1 h2
theorem RunJ.pop (h : RunJ css V bud R st L D) (e : ¬ st = bud) (h1 : ¬ (uRun css L D).2 = -1) (h2 : ¬ D.length = 0) : RunJ css V bud R (st + 1) (L ++ [negL D]) D.dropLast := by
 have hl := h.le
 have hf := h.few
 refine ⟨h.ok.learn, by simp; omega, by omega, ?_⟩
 rw [← h.run, solF_pop (n := bud - st) (by omega) h1 h2, show bud - st - 1 = bud - (st + 1) by omega]
 rfl
theorem RunJ.sp (h : RunJ css V bud R st L D) : SpTo (V : Int) (uRun css L D).1 (uRun css L D).1.length := resF_sp _ h.ok.all _ _ h.ok.ds
end
structure SS (w : World) (O : Nat) (V : Int) (sl : Option Addr) (n cap : Nat) (x : Int) (T : List Int) (ls : List LCl) (D : List Int) (vt vl vd : Value) (st : Int) (W : World) : Prop where
 cnf : CnfAt W w.heap.size V sl n cap
 box : BoxO W (w.heap.size + 1)
 out : W.heap[O]? = some (.cells #[.int .i64 x, vt, vl, .int .i64 st, .int .i64 0] 107)
 tr : W.ownsRow w.heap.size 2 1 vt T.length (valsZ T)
 ol : OwC W w.heap.size vl ls
 od : W.ownsRow w.heap.size 2 1 vd D.length (valsZ D)
 da : ∀ r ∈ ls, ∀ j, r.1.ownBlock = some j → vd.ownBlock ≠ some j
 ta : ∀ r ∈ ls, ∀ j, r.1.ownBlock = some j → vt.ownBlock ≠ some j
 bl : Below w.heap.size w W
 hO : w.heap.size + 1 < O
section
variable {w : World} {O : Nat} {V : Int} {sl : Option Addr} {n cap : Nat} {x : Int} {T : List Int} {ls : List LCl} {D : List Int} {vt vl vd : Value} {st : Int} {W W' : World}
theorem SS.below (h : SS w O V sl n cap x T ls D vt vl vd st W) (hb : Below W.heap.size W W') : SS w O V sl n cap x T ls D vt vl vd st W' :=
 ⟨h.cnf.below hb, h.box.below hb, (hb.block O (Array.getElem?_eq_some_iff.1 h.out).1).trans h.out, own_below h.tr hb, h.ol.below hb, own_below h.od hb, h.da, h.ta, bT h.bl hb, h.hO⟩
theorem SS.facts (h : SS w O V sl n cap x T ls D vt vl vd st W) : O < W.heap.size ∧ W.cell? ⟨O, 0, none⟩ = some (.int .i64 x) ∧ W.cell? ⟨O, 1, none⟩ = some vt ∧ W.cell? ⟨O, 2, none⟩ = some vl ∧ W.cell? ⟨O, 3, none⟩ = some (.int .i64 st) ∧ W.cell? ⟨O, 4, none⟩ = some (.int .i64 0) ∧ (∀ k, W.frozen? ⟨O, k, none⟩ = false) ∧ w.heap.size < W.heap.size ∧ W.cell? ⟨w.heap.size, 0, none⟩ = some (.int .i64 V) ∧ W.cell? ⟨w.heap.size, 1, none⟩ = some (.slice sl n cap) := by
 obtain ⟨e0, e1, e2, e3, e4⟩ := cells5 h.out
 exact ⟨(Array.getElem?_eq_some_iff.1 h.out).1, e0, e1, e2, e3, e4, fun k => by simp [World.frozen?, h.out], h.cnf.lt, h.cnf.cells⟩
theorem SS.put (h : SS w O V sl n cap x T ls D vt vl vd st W) {x' : Int} {st' : Int} (ho : Only O W W') (hx : W'.heap[O]? = some (.cells #[.int .i64 x', vt, vl, .int .i64 st', .int .i64 0] 107)) : SS w O V sl n cap x' T ls D vt vl vd st' W' := by
 have hOs := h.hO
 exact ⟨(ho.block _ h.cnf.lt (by omega)).trans h.cnf, (ho.block _ h.box.facts.1 (by omega)).trans h.box, hx, own_only h.tr ho h.out (by decide), owc_only h.ol ho h.out (by decide) (by decide), own_only h.od ho h.out (by decide), h.da, h.ta, Only.below h.bl (by omega) ho, h.hO⟩
theorem SS.verdict (h : SS w O V sl n cap x T ls D vt vl vd st W) (y : Int) : SS w O V sl n cap y T ls D vt vl vd st (W.setCell ⟨O, 0, none⟩ (.int .i64 y)) :=
 h.put ((Only.refl O W).setCell 0 _) (heap_setCell_same W O 0 _ 107 _ h.out)
theorem SS.step (h : SS w O V sl n cap x T ls D vt vl vd st W) (y : Int) : SS w O V sl n cap x T ls D vt vl vd y (W.setCell ⟨O, 3, none⟩ (.int .i64 y)) :=
 h.put ((Only.refl O W).setCell 3 _) (heap_setCell_same W O 3 _ 107 _ h.out)
theorem SS.slot (h : SS w O V sl n cap x T ls D vt vl vd st W) {e : TypeId} {m k B : Nat} {v : Value} {xs : List Value} (hv : W.ownsRow B e m v k xs) (h1 : e ≠ 110) (h2 : e ≠ 107) (hB : w.heap.size ≤ B) (hg : W.grownBy W' v.ownBlock) : CnfAt W' w.heap.size V sl n cap ∧ BoxO W' (w.heap.size + 1) ∧ W'.heap[O]? = some (.cells #[.int .i64 x, vt, vl, .int .i64 st, .int .i64 0] 107) ∧ Below w.heap.size w W' := by
 have key : ∀ (k : Nat) (us : Array Value) (t : TypeId), W.heap[k]? = some (.cells us t) → e ≠ t → W'.heap[k]? = some (.cells us t) := fun k us t hk ht =>
  (hg.block k (Array.getElem?_eq_some_iff.1 hk).1 (fun e' => by
   obtain ⟨cur, hc⟩ := own_kind hv e'.symm
   rw [hk] at hc
   cases hc
   exact ht rfl)).trans hk
 exact ⟨key _ _ _ h.cnf h1, key _ _ _ h.box h2, key _ _ _ h.out h2, h.bl.grown hg h.bl.size (fun j hj => Nat.le_trans hB (hv.lt j hj).1)⟩
theorem SS.decide (h : SS w O V sl n cap x T ls D vt vl vd st W) (hvt : vt = .slice none 0 0) {D' : List Int} {vd' : Value} (hg : W.grownBy W' vd.ownBlock) (ho : W'.ownsRow w.heap.size 2 1 vd' D'.length (valsZ D')) (hn : ∀ j, vd'.ownBlock = some j → vd.ownBlock = some j ∨ j = W.heap.size) :
  SS w O V sl n cap x T ls D' vt vl vd' st W' := by
 obtain ⟨s1, s2, s3, s4⟩ := h.slot h.od (by decide) (by decide) (Nat.le_refl _) hg
 have lr : ∀ r ∈ ls, W'.ownsRow w.heap.size 2 1 r.1 r.2.length (valsZ r.2) := fun r hr => (h.ol.each r hr).kept hg (by
  rcases hj : r.1.ownBlock with _ | j
  ·exact .inl rfl
  ·exact .inr (fun e => h.da r hr j hj e.symm))
 have oc : OwC W' w.heap.size vl ls := ⟨h.ol.row.kept hg (own_diff h.ol.row h.od (by decide)), lr, h.ol.diff⟩
 refine ⟨s1, s2, s3, h.tr.kept hg (.inl (by rw [hvt]; rfl)), oc, ho, fun r hr j hj e => ?_, h.ta, s4, h.hO⟩
 rcases hn j e with e2 | e2
 ·exact h.da r hr j hj e2
 ·have := ((h.ol.each r hr).lt j hj).2
  omega
theorem SS.fresh (h : SS w O V sl n cap x T ls D vt vl vd st W) {D' : List Int} {vd' : Value} {B : Nat} (hb : Below W.heap.size W W') (ho : W'.ownsRow B 2 1 vd' D'.length (valsZ D')) (hB : W.heap.size ≤ B) : SS w O V sl n cap x T ls D' vt vl vd' st W' := by
 have h' := h.below hb
 refine ⟨h'.cnf, h'.box, h'.out, h'.tr, h'.ol, own_mono ho (Nat.le_trans h.bl.size hB), fun r hr j hj e => ?_, h'.ta, h'.bl, h'.hO⟩
 have h1 := ((h.ol.each r hr).lt j hj).2
 have h2 := (ho.lt j e).1
 omega
theorem SS.lemma (h : SS w O V sl n cap x T ls D vt vl vd st W) {r : LCl} {vl' : Value} (hr : W.ownsRow w.heap.size 2 1 r.1 r.2.length (valsZ r.2)) (hf : ∀ j, r.1.ownBlock = some j → (∀ s ∈ ls, s.1.ownBlock ≠ some j) ∧ vd.ownBlock ≠ some j ∧ vt.ownBlock ≠ some j) (hg : W.grownBy W' vl.ownBlock) (ho : W'.ownsRow w.heap.size 34 1 vl' (ls.length + 1) (hdC ls ++ [r.1])) :
  SS w O V sl n cap x T (ls ++ [r]) D vt vl' vd st (W'.setCell ⟨O, 2, none⟩ vl') := by
 obtain ⟨s1, s2, s3, s4⟩ := h.slot h.ol.row (by decide) (by decide) (Nat.le_refl _) hg
 have oc := h.ol.add (Below.refl _ _) hr (fun j hj s hs => (hf j hj).1 s hs) hg ho
 have hOs := h.hO
 have ho2 : Only O W' (W'.setCell ⟨O, 2, none⟩ vl') := (Only.refl O W').setCell 2 _
 refine ⟨(ho2.block _ s1.lt (by omega)).trans s1, (ho2.block _ s2.facts.1 (by omega)).trans s2, heap_setCell_same W' O 2 _ 107 _ s3, own_only (h.tr.kept hg (own_diff h.tr h.ol.row (by decide))) ho2 s3 (by decide), owc_only oc ho2 s3 (by decide) (by decide), own_only (h.od.kept hg (own_diff h.od h.ol.row (by decide))) ho2 s3 (by decide), fun s hs j hj => ?_, fun s hs j hj => ?_, Only.below s4 (by omega) ho2, h.hO⟩
 ·rcases List.mem_append.1 hs with h1 | h1
  ·exact h.da s h1 j hj
  ·rw [List.mem_singleton.1 h1] at hj
   exact (hf j hj).2.1
 ·rcases List.mem_append.1 hs with h1 | h1
  ·exact h.ta s h1 j hj
  ·rw [List.mem_singleton.1 h1] at hj
   exact (hf j hj).2.2
theorem SS.true (h : SS w O V sl n cap x T ls [] vt vl (.slice none 0 0) st W) {T' : List Int} {vt' : Value} (hg : W.grownBy W' vt.ownBlock) (ho : W'.ownsRow w.heap.size 2 1 vt' T'.length (valsZ T')) (hn : ∀ j, vt'.ownBlock = some j → vt.ownBlock = some j ∨ j = W.heap.size) :
  SS w O V sl n cap x T' ls [] vt' vl (.slice none 0 0) st (W'.setCell ⟨O, 1, none⟩ vt') := by
 obtain ⟨s1, s2, s3, s4⟩ := h.slot h.tr (by decide) (by decide) (Nat.le_refl _) hg
 have lr : ∀ r ∈ ls, W'.ownsRow w.heap.size 2 1 r.1 r.2.length (valsZ r.2) := fun r hr => (h.ol.each r hr).kept hg (by
  rcases hj : r.1.ownBlock with _ | j
  ·exact .inl rfl
  ·exact .inr (fun e => h.ta r hr j hj e.symm))
 have oc : OwC W' w.heap.size vl ls := ⟨h.ol.row.kept hg (own_diff h.ol.row h.tr (by decide)), lr, h.ol.diff⟩
 have hOs := h.hO
 have ho2 : Only O W' (W'.setCell ⟨O, 1, none⟩ vt') := (Only.refl O W').setCell 1 _
 refine ⟨(ho2.block _ s1.lt (by omega)).trans s1, (ho2.block _ s2.facts.1 (by omega)).trans s2, heap_setCell_same W' O 1 _ 107 _ s3, own_only ho ho2 s3 (by decide), owc_only oc ho2 s3 (by decide) (by decide), ⟨rfl, .inl ⟨rfl, rfl⟩⟩, (fun r hr j hj e => by cases e), fun r hr j hj e => ?_, Only.below s4 (by omega) ho2, h.hO⟩
 rcases hn j e with e2 | e2
 ·exact h.ta r hr j hj e2
 ·have := ((h.ol.each r hr).lt j hj).2
  omega
theorem SS.drop (h : SS w O V sl n cap x T ls D vt vl vd st W) : SS w O V sl n cap x T ls [] vt vl (.slice none 0 0) st W :=
 ⟨h.cnf, h.box, h.out, h.tr, h.ol, ⟨rfl, .inl ⟨rfl, rfl⟩⟩, (fun r hr j hj e => by cases e), h.ta, h.bl, h.hO⟩
theorem SS.fin (h : SS w O V sl n cap x T ls D vt vl vd st W) {R : Res} (hR : R = (x, T, bareC ls, st)) : SPost w (R, 0) (.returned (.agg #[.int .i64 x, vt, vl, .int .i64 st, .int .i64 0])) (set5 W (w.heap.size + 1) (.int .i64 x) vt vl (.int .i64 st) (.int .i64 0)) := by
 subst hR
 have hv : SoV w.heap.size (x, T, bareC ls, st) vt vl ls W := ⟨h.tr, h.ol, rfl, h.ta⟩
 exact ⟨vt, vl, ls, rfl, hv.only (set5_only _ _ _ _ _ _ _) h.box, Only.below h.bl (by omega) (set5_only _ _ _ _ _ _ _)⟩
end
end Go.Proofs.YtnihhbfgbilimaaGreatDoor
