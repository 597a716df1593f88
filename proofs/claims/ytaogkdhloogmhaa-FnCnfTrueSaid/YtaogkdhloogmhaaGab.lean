/-
  THE IDS AS THEY STAND, as the program gathers them.
  THE LAWS' TABLES: their sizes.
  THE LAWS' TABLES: copied into tables of the program.
  THE LAWS' CLAUSES: how they lie; their size; copied, held against each other.
  CLAUSES THAT ARE OWNED: a row of slices, each with a row of its own; grown by one, put behind others.
  THE LAWS' CLAUSES copied into a Cnf; are clauses right? As both sides answer it.
  WHEN A TABLE IS RIGHT: the thinking.
  ARE CLAUSES RIGHT? The model's answer.
  ARE CLAUSES RIGHT? The model's answer is the program's.
  THE VALUE OF A LITERAL: spec.l01Has, both LitValue, the law's walk.
  VALUES BY VARIABLE: an array of 97 numbers that stands for a trail; its methods of, put, take.
  IS A TRAIL RIGHT? Both sides.
  UNITS: which literals of a clause are not false, the first clause that is false or a unit; notFalse, passing, firstDue.
  ROWS PUT TOGETHER: slices.Grow of none, slices.Concat, at numbers.
  ROWS OF SLICES PUT TOGETHER: slices.Grow of none, slices.Concat, at []int64; impl.clausesWith.
-/
import Derived.Test.YtaogkdhloogmhaaHao
import Derived.Test.YtaogkdhloogmhaaHab
import Derived.Test.YtaogkdhloogmhaaHaj
import Derived.Test.YtaogkdhloogmhaaHaf
import Derived.Test.YtaogkdhloogmhaaHah
import Derived.Test.YtaogkdhloogmhaaHae
import Derived.Test.YtaogkdhloogmhaaHaa
import Derived.Test.YtaogkdhloogmhaaGaa
import Derived.Deep.AppendLies
import Derived.WalkSmall
import Derived.OwnWalk
import Derived.Deep.RegionHeldLaw
import Derived.Lib.AppendZerosOnto
import Derived.Deep.Upon
import Derived.BigQuiet
import Derived.OpenShut
import Derived.Lib.SliceRun
namespace Go.Proofs.Ytaogkdhloogmhaa
open Go.RowKit
set_option linter.unusedVariables false

end Go.Proofs.Ytaogkdhloogmhaa
namespace Go.Proofs.Ytaogkdhloogmhaa
open Go.RowKit
set_option linter.unusedVariables false

end Go.Proofs.Ytaogkdhloogmhaa
namespace Go.Proofs.Ytaogkdhloogmhaa
open Go.RowKit
set_option linter.unusedVariables false

end Go.Proofs.Ytaogkdhloogmhaa
namespace Go.Proofs.Ytaogkdhloogmhaa
open Go.RowKit
set_option linter.unusedVariables false

end Go.Proofs.Ytaogkdhloogmhaa
namespace Go.Proofs.Ytaogkdhloogmhaa
open Go.RowKit
set_option linter.unusedVariables false

theorem hdC_len (cs : List LCl) : (hdC cs).length = cs.length := by simp [hdC]
end Go.Proofs.Ytaogkdhloogmhaa
namespace Go.Proofs.Ytaogkdhloogmhaa
open Go.RowKit
set_option linter.unusedVariables false

end Go.Proofs.Ytaogkdhloogmhaa
namespace Go.Proofs.Ytaogkdhloogmhaa
open Go.RowKit
set_option linter.unusedVariables false

end Go.Proofs.Ytaogkdhloogmhaa
namespace Go.Proofs.Ytaogkdhloogmhaa
open Go.RowKit
set_option linter.unusedVariables false

end Go.Proofs.Ytaogkdhloogmhaa
namespace Go.Proofs.Ytaogkdhloogmhaa
open Go.RowKit
set_option linter.unusedVariables false

end Go.Proofs.Ytaogkdhloogmhaa
namespace Go.Proofs.Ytaogkdhloogmhaa
open Go.RowKit
set_option linter.unusedVariables false

end Go.Proofs.Ytaogkdhloogmhaa
namespace Go.Proofs.Ytaogkdhloogmhaa
open Go.RowKit
set_option linter.unusedVariables false

/-- What a literal is by a trail: 1, -1 or 0. -/
noncomputable def val (tr : List Int) (z : Int) : Int := @ite _ (z ∈ tr) (Classical.propDecidable _) 1 (@ite _ (-z ∈ tr) (Classical.propDecidable _) (-1) 0)
theorem val_yes {tr : List Int} {z : Int} (h : z ∈ tr) : val tr z = 1 := by unfold val; rw [if_pos h]
theorem val_neg {tr : List Int} {z : Int} (h : z ∉ tr) (h2 : -z ∈ tr) : val tr z = -1 := by unfold val; rw [if_neg h, if_pos h2]
theorem val_no {tr : List Int} {z : Int} (h : z ∉ tr) (h2 : -z ∉ tr) : val tr z = 0 := by unfold val; rw [if_neg h, if_neg h2]
theorem val_cases (tr : List Int) (z : Int) : (val tr z = 1 ∧ z ∈ tr) ∨ (val tr z = -1 ∧ z ∉ tr ∧ -z ∈ tr) ∨ (val tr z = 0 ∧ z ∉ tr ∧ -z ∉ tr) := by
  by_cases h : z ∈ tr
  · exact .inl ⟨val_yes h, h⟩
  · by_cases h2 : -z ∈ tr
    · exact .inr (.inl ⟨val_neg h h2, h, h2⟩)
    · exact .inr (.inr ⟨val_no h h2, h, h2⟩)
theorem val_iff {a b : List Int} {x : Int} (e1 : x ∈ a ↔ x ∈ b) (e2 : -x ∈ a ↔ -x ∈ b) : val b x = val a x := by
  rcases val_cases a x with ⟨e, h1⟩ | ⟨e, h1, h2⟩ | ⟨e, h1, h2⟩
  · rw [e, val_yes (e1.1 h1)]
  · rw [e, val_neg (fun h => h1 (e1.2 h)) (e2.1 h2)]
  · rw [e, val_no (fun h => h1 (e1.2 h)) (fun h => h2 (e2.2 h))]
/-- No literal of it beside its minus. -/
def Cons (tr : List Int) : Prop := ∀ z ∈ tr, -z ∉ tr
/-- The cells of the values of a trail. -/
noncomputable def vL (tr : List Int) : List Value := (List.range 97).map fun k : Nat => Value.int .i64 (val tr (k : Int))
/-- Block b: six fields, then the values of a trail. -/
def VAt (fh : List Value) (w : World) (b : Nat) (tr : List Int) : Prop := fh.length = 6 ∧ w.heap[b]? = some (.cells (fh ++ vL tr).toArray 63)
theorem vL_len (tr : List Int) : (vL tr).length = 97 := by simp [vL]
theorem vL_at (tr : List Int) (k : Nat) (h : k < 97) : (vL tr)[k]? = some (.int .i64 (val tr (k : Int))) := by simp [vL, h]
variable {fh : List Value}
theorem VAt.lt {w : World} {b : Nat} {tr : List Int} (h : VAt fh w b tr) : b < w.heap.size := (Array.getElem?_eq_some_iff.1 h.2).1
theorem VAt.cell {w : World} {b : Nat} {tr : List Int} (h : VAt fh w b tr) (k : Nat) (hk : k < 97) : w.cell? ⟨b, 6 + k, none⟩ = some (.int .i64 (val tr (k : Int))) := by
  have : w.cell? ⟨b, 6 + k, none⟩ = (fh ++ vL tr)[6 + k]? := by simp [World.cell?, h.2]
  rw [this, List.getElem?_append_right (by rw [h.1]; omega), h.1, Nat.add_sub_cancel_left, vL_at tr k hk]
theorem VAt.frozen {w : World} {b : Nat} {tr : List Int} (h : VAt fh w b tr) (k : Nat) : w.frozen? ⟨b, k, none⟩ = false := by simp [World.frozen?, h.2]
theorem VAt.kept {w w' : World} {b : Nat} {tr : List Int} (h : VAt fh w b tr) (e : w'.heap[b]? = w.heap[b]?) : VAt fh w' b tr := ⟨h.1, e.trans h.2⟩
theorem VAt.below {w w' : World} {b : Nat} {tr : List Int} (h : VAt fh w b tr) (hb : Below w.heap.size w w') : VAt fh w' b tr := ⟨h.1, (hb.block b h.lt).trans h.2⟩
/-- A literal more. -/
theorem vL_put (tr : List Int) (z : Int) (i : Nat) (u : Int) (h1 : z ∉ tr) (h2 : -z ∉ tr) (hi : (z = (i : Int) ∧ u = 1) ∨ (z = -(i : Int) ∧ u = -1 ∧ 0 < i)) : (vL tr).set i (.int .i64 u) = vL (tr ++ [z]) := by
  apply List.ext_getElem
  · simp [vL]
  · intro k a1 a2
    rw [List.getElem_set]
    simp only [vL, List.getElem_map, List.getElem_range]
    by_cases hk : i = k
    · subst hk
      rw [if_pos rfl]
      rcases hi with ⟨rfl, rfl⟩ | ⟨rfl, rfl, h0⟩
      · rw [val_yes (by simp)]
      · rw [val_neg (by simp at h2 ⊢; exact ⟨h2, by omega⟩) (by simp)]
    · rw [if_neg hk]
      have e1 : ((k : Int) ∈ tr ++ [z]) ↔ (k : Int) ∈ tr := by
        simp only [List.mem_append, List.mem_singleton]
        exact ⟨fun h => by rcases h with h | h; exact h; rcases hi with ⟨rfl, _⟩ | ⟨rfl, _, _⟩ <;> omega, .inl⟩
      have e2 : (-(k : Int) ∈ tr ++ [z]) ↔ -(k : Int) ∈ tr := by
        simp only [List.mem_append, List.mem_singleton]
        exact ⟨fun h => by rcases h with h | h; exact h; rcases hi with ⟨rfl, _⟩ | ⟨rfl, _, _⟩ <;> omega, .inl⟩
      rw [val_iff e1 e2]
theorem VAt.put {w : World} {b : Nat} {tr : List Int} (h : VAt fh w b tr) (z : Int) (i : Nat) (u : Int) (h1 : z ∉ tr) (h2 : -z ∉ tr) (hi : (z = (i : Int) ∧ u = 1) ∨ (z = -(i : Int) ∧ u = -1 ∧ 0 < i)) : VAt fh (w.setCell ⟨b, 6 + i, none⟩ (.int .i64 u)) b (tr ++ [z]) := by
  have := heap_setCell_same w b (6 + i) _ 63 (.int .i64 u) h.2
  rw [List.setIfInBounds_toArray, List.set_append_right _ _ (by rw [h.1]; omega), h.1, Nat.add_sub_cancel_left, vL_put tr z i u h1 h2 hi] at this
  exact ⟨h.1, this⟩
theorem Cons.put {tr : List Int} {z : Int} (h : Cons tr) (h1 : z ∉ tr) (h2 : -z ∉ tr) (h0 : z ≠ 0) : Cons (tr ++ [z]) := by
  intro y hy hn
  simp only [List.mem_append, List.mem_singleton] at hy hn
  rcases hy with hy | rfl
  · rcases hn with hn | hn
    · exact h y hy hn
    · exact h2 (by rw [← hn]; simpa using hy)
  · rcases hn with hn | hn
    · exact h2 hn
    · omega

theorem SpTo.pre {vars : Int} {zs : List Int} {k : Nat} (h : SpTo vars zs k) (hk : k ≤ zs.length) : ∀ z ∈ zs.take k, OkZ vars z ∧ -z ∉ zs.take k := by
  intro z hz
  obtain ⟨i, hi, rfl⟩ := List.getElem_of_mem hz
  have hi' : i < k := by simp at hi; omega
  have hg : (zs.take k)[i] = zs.getD i 0 := by simp [show i < zs.length by omega]
  refine ⟨by rw [hg]; exact (h i hi').1, fun hn => ?_⟩
  obtain ⟨j, hj, e⟩ := List.getElem_of_mem hn
  have hj' : j < k := by simp at hj; omega
  have hg2 : (zs.take k)[j] = zs.getD j 0 := by simp [show j < zs.length by omega]
  rw [hg, hg2] at e
  have n0 := (h i hi').1.1
  rcases Nat.lt_trichotomy i j with g | g | g
  · exact ((h j hj').2 i g).2 (by omega)
  · subst g; omega
  · exact ((h i hi').2 j g).2 e
theorem SpTo.cons {vars : Int} {zs : List Int} {k : Nat} (h : SpTo vars zs k) (hk : k ≤ zs.length) : Cons (zs.take k) := fun z hz => (h.pre hk z hz).2
theorem apart_iff (zs : List Int) (k : Nat) (hk : k < zs.length) : ApartQ zs k k ↔ zs.getD k 0 ∉ zs.take k ∧ -zs.getD k 0 ∉ zs.take k := by
  have hg : ∀ j, j < k → ∀ h : j < (zs.take k).length, (zs.take k)[j] = zs.getD j 0 := fun j hj h => by simp [show j < zs.length by omega]
  constructor
  · intro h
    refine ⟨fun hm => ?_, fun hm => ?_⟩
    · obtain ⟨j, hj, e⟩ := List.getElem_of_mem hm
      have hj' : j < k := by simp at hj; omega
      rw [hg j hj' hj] at e
      exact (h j hj').1 e
    · obtain ⟨j, hj, e⟩ := List.getElem_of_mem hm
      have hj' : j < k := by simp at hj; omega
      rw [hg j hj' hj] at e
      exact (h j hj').2 e
  · rintro ⟨h1, h2⟩ j hj
    have hl : j < (zs.take k).length := by simp; omega
    refine ⟨fun e => h1 ?_, fun e => h2 ?_⟩
    · rw [← e, ← hg j hj hl]; exact List.getElem_mem _
    · rw [← e, ← hg j hj hl]; exact List.getElem_mem _
theorem take_one (zs : List Int) (k : Nat) (hk : k < zs.length) : zs.take (k + 1) = zs.take k ++ [zs.getD k 0] := by
  rw [List.take_succ_eq_append_getElem hk]; simp [hk]

end Go.Proofs.Ytaogkdhloogmhaa
namespace Go.Proofs.Ytaogkdhloogmhaa
open Go.RowKit
set_option linter.unusedVariables false

theorem pig : ∀ (n : Nat) (l : List Nat), l.Nodup → (∀ x ∈ l, 1 ≤ x ∧ x ≤ n) → l.length ≤ n
  | 0, l, _, h => by
    cases l with
    | nil => simp
    | cons a r => have := h a (by simp); omega
  | n + 1, l, hd, h => by
    by_cases hm : n + 1 ∈ l
    · have h1 := pig n (l.erase (n + 1)) (hd.erase _) (fun x hx => by
        have h2 := (hd.mem_erase_iff).1 hx
        have := h x h2.2
        have := h2.1
        omega)
      rw [List.length_erase_of_mem hm] at h1
      omega
    · have := pig n l hd (fun x hx => by
        have h2 := h x hx
        have : x ≠ n + 1 := fun e => hm (e ▸ hx)
        omega)
      omega
theorem SpTo.short {vars : Int} {zs : List Int} (h : SpTo vars zs zs.length) (hv : vars ≤ 96) : zs.length ≤ 96 := by
  have h1 : (zs.map Int.natAbs).Nodup := by
    rw [List.nodup_iff_pairwise_ne, List.pairwise_iff_getElem]
    intro i j hi hj hij e
    simp only [List.length_map] at hi hj
    simp only [List.getElem_map] at e
    have g := (h j hj).2 i hij
    simp only [List.getD_eq_getElem?_getD, hi, hj, List.getElem?_eq_getElem, Option.getD_some] at g
    rcases Int.natAbs_eq_natAbs_iff.1 e with e | e
    · exact g.1 e
    · exact g.2 e
  have h2 := pig 96 _ h1 (fun x hx => by
    obtain ⟨z, hz, rfl⟩ := List.mem_map.1 hx
    obtain ⟨i, hi, rfl⟩ := List.getElem_of_mem hz
    have g := (h i hi).1
    simp only [List.getD_eq_getElem?_getD, hi, List.getElem?_eq_getElem, Option.getD_some] at g
    obtain ⟨g1, g2, g3⟩ := g
    omega)
  simpa using h2
end Go.Proofs.Ytaogkdhloogmhaa
namespace Go.Proofs.Ytaogkdhloogmhaa
open Go.RowKit
set_option linter.unusedVariables false
variable {fh : List Value}

/-- The literals of a clause that are not false. -/
noncomputable def nfl (tr zs : List Int) : List Int := zs.filter fun z => decide (0 ≤ val tr z)
/-- 0 of a false clause, the literal of a unit, none else. -/
noncomputable def unitOf (tr zs : List Int) : Option Int :=
  match nfl tr zs with
  | [] => some 0
  | [z] => if val tr z = 0 then some z else none
  | _ => none
theorem nfl_step (tr zs : List Int) (k : Nat) (h : k < zs.length) : nfl tr (zs.take (k + 1)) = if 0 ≤ val tr (zs.getD k 0) then nfl tr (zs.take k) ++ [zs.getD k 0] else nfl tr (zs.take k) := by
  rw [take_one zs k h]
  unfold nfl
  rw [List.filter_append]
  by_cases g : 0 ≤ val tr (zs.getD k 0)
  · rw [if_pos g, List.filter_cons_of_pos (by simpa using g), List.filter_nil]
  · rw [if_neg g, List.filter_cons_of_neg (by simpa using g), List.filter_nil, List.append_nil]
theorem nfl_more (tr zs : List Int) (k : Nat) : (nfl tr (zs.take k)).length ≤ (nfl tr zs).length := by
  have := congrArg (fun l => (nfl tr l).length) (List.take_append_drop k zs)
  simp only [nfl, List.filter_append, List.length_append] at this
  unfold nfl
  omega

/-- The first clause that is false or a unit, from place k on; 0 of a false one. -/
noncomputable def dueL (tr : List Int) : Nat → List (List Int) → Int × Int
  | _, [] => (-1, 0)
  | k, l :: r => match unitOf tr l with
    | some z => ((k : Int), z)
    | none => dueL tr (k + 1) r
theorem dueL_step (tr : List Int) (css : List (List Int)) (k : Nat) (h : k < css.length) : dueL tr k (css.drop k) = match unitOf tr (css.getD k []) with
    | some z => ((k : Int), z)
    | none => dueL tr (k + 1) (css.drop (k + 1)) := by
  rw [List.drop_eq_getElem_cons h, dueL]
  simp [h]
theorem dueL_end (tr : List Int) (css : List (List Int)) (k : Nat) (h : css.length ≤ k) : dueL tr k (css.drop k) = (-1, 0) := by
  rw [List.drop_of_length_le h, dueL]

end Go.Proofs.Ytaogkdhloogmhaa
namespace Go.Proofs.Ytaogkdhloogmhaa
open Go.RowKit
set_option linter.unusedVariables false

end Go.Proofs.Ytaogkdhloogmhaa
namespace Go.Proofs.Ytaogkdhloogmhaa
open Go.RowKit
set_option linter.unusedVariables false

/-- A row of values of one cell each: its slice, the values. -/
abbrev VRw := Value × List Value
def VLie (w : World) (sl : Option Addr) (us : List Value) : Prop := us = [] ∨ ∃ c o, sl = some ⟨c, o, none⟩ ∧ c < w.heap.size ∧ ∀ (j : Nat) (u : Value), us[j]? = some u → w.cell? ((⟨c, o, none⟩ : Addr).add j) = some u
theorem VLie.below {w w' : World} {sl : Option Addr} {us : List Value} (h : VLie w sl us) (hb : Below w.heap.size w w') : VLie w' sl us := by
  rcases h with h | ⟨c, o, e, hl, hc⟩
  · exact .inl h
  · refine .inr ⟨c, o, e, Nat.lt_of_lt_of_le hl hb.size, fun j u hu => ?_⟩
    have := hc j u hu
    rw [at_add] at this ⊢
    exact (hb.cell (p := ⟨c, o + j, none⟩) hl).trans this
/-- Rows of such. -/
structure VRws (w : World) (sl : Option Addr) (rows : List VRw) : Prop where
  row : rows = [] ∨ ∃ c o, sl = some ⟨c, o, none⟩ ∧ c < w.heap.size ∧ ∀ i (h : i < rows.length), w.cell? ⟨c, o + i, none⟩ = some rows[i].1
  each : ∀ r ∈ rows, ∃ s k, r.1 = .slice s r.2.length k ∧ VLie w s r.2 ∧ ∀ u ∈ r.2, u.oneCell' = true
theorem VRws.below {w w' : World} {sl : Option Addr} {rows : List VRw} (h : VRws w sl rows) (hb : Below w.heap.size w w') : VRws w' sl rows := by
  refine ⟨?_, fun r hr => ?_⟩
  · rcases h.row with h | ⟨c, o, e, hl, hc⟩
    · exact .inl h
    · exact .inr ⟨c, o, e, Nat.lt_of_lt_of_le hl hb.size, fun i hi => (hb.cell (p := ⟨c, o + i, none⟩) hl).trans (hc i hi)⟩
  · obtain ⟨s, k, e, hv, h1⟩ := h.each r hr
    exact ⟨s, k, e, hv.below hb, h1⟩
theorem VRws.at {w : World} {sl : Option Addr} {rows : List VRw} (h : VRws w sl rows) {k : Nat} (hk : k < rows.length) : ∃ c o, sl = some ⟨c, o, none⟩ ∧ c < w.heap.size ∧ ∀ i (h : i < rows.length), w.cell? ⟨c, o + i, none⟩ = some rows[i].1 := by
  rcases h.row with h | h
  · rw [h] at hk; simp at hk
  · exact h

theorem Cls.lie {w : World} {sl : Option Addr} {cs : List LCl} (h : Cls w sl cs) : VLie w sl (hdC cs) := by
  rcases h.row with h | ⟨c, o, e, hl, hc⟩
  · exact .inl (by rw [h]; rfl)
  · refine .inr ⟨c, o, e, hl, fun j u hu => ?_⟩
    have hj : j < cs.length := by
      have := (List.getElem?_eq_some_iff.1 hu).1
      rwa [hdC_len] at this
    rw [at_add, hc j hj, ← hu]
    simp [hdC, hj]
end Go.Proofs.Ytaogkdhloogmhaa
