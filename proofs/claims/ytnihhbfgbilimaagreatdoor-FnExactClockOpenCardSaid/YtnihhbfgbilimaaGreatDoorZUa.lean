import Derived.Test.YtnihhbfgbilimaaGreatDoorVab
import Derived.Lib.SliceRun
import Derived.Deep.LoopGhost
import Derived.Lib.TrailingZeros
import Derived.RegionTactic
import Derived.ChangeAlike
import Derived.Deep.RegionWith
import Derived.Deep.RegionLaw
import Derived.Deep.DeepCutAuto
import Derived.Test.YtnihhbfgbilimaaGreatDoorVac
namespace Go.Proofs.YtnihhbfgbilimaaGreatDoor
open Go.RowKit
set_option linter.unusedVariables false
theorem vs_size (zs : List Int) (k : Nat) (h : k ≤ zs.length) : (vsOf zs k).size = zs.length := by simp [vsOf]; omega
theorem vs_step (zs : List Int) (k : Nat) (h : k < zs.length) : (vsOf zs k).setIfInBounds k (.int .i64 (zs.getD k 0)) = vsOf zs (k + 1) := by
 apply Array.ext
 ·simp [vsOf]; omega
 ·intro i h1 h2
  simp only [Array.size_setIfInBounds] at h1
  rw [Array.getElem_setIfInBounds h1]
  simp only [vsOf, List.getElem_toArray]
  by_cases hi : k = i
  ·subst hi
   rw [if_pos rfl, List.getElem_append_left (by simp; omega)]
   simp [h]
  ·rw [if_neg hi]
   by_cases hlt : i < k
   ·rw [List.getElem_append_left (by simp; omega), List.getElem_append_left (by simp; omega)]
    simp
   ·rw [List.getElem_append_right (by simp; omega), List.getElem_append_right (by simp; omega)]
    simp
theorem vs_at (zs : List Int) (k : Nat) (h : k < zs.length) : (vsOf zs k)[k]? = some (.int .i64 0) := by
 rw [Array.getElem?_eq_getElem (by rw [vs_size zs k (by omega)]; exact h)]
 simp only [vsOf, List.getElem_toArray]
 rw [List.getElem_append_right (by simp; omega)]
 simp
theorem vs_all (zs : List Int) (k : Nat) (hk : zs.length ≤ k) (i : Nat) (h : i < zs.length) : (vsOf zs k)[i]? = some (.int .i64 (zs.getD i 0)) := by
 rw [Array.getElem?_eq_getElem (by simp [vsOf]; omega)]
 simp only [vsOf, List.getElem_toArray]
 rw [List.getElem_append_left (by simp; omega)]
 simp [h]
theorem RowAt.ints {w : World} {b : Nat} {zs : List Int} {k : Nat} (h : RowAt w b (vsOf zs k)) (hk : zs.length ≤ k) : IntsAt w b 0 zs :=
 ⟨h.lt, fun i hi => by rw [Nat.zero_add, h.cell i]; exact vs_all zs k hk i hi⟩
theorem own_len {w : World} {B : Nat} {e : TypeId} {m : Nat} {v : Value} {n : Nat} {xs : List Value} (h : w.ownsRow B e m v n xs) : n ≤ maxLen := by
 rcases h.2 with ⟨_, h0⟩ | ⟨g, cap, cur, _, _, _, h1, h2, _⟩
 ·rw [h0]; exact Nat.zero_le _
 ·exact Nat.le_trans h1 h2
theorem OwC.cls {w : World} {B : Nat} {v : Value} {cs : List LCl} (h : OwC w B v cs) : ∃ sl cap, v = .slice sl cs.length cap ∧ Cls w sl cs := by
 have each : ∀ r ∈ cs, ClIn w r := fun r hr => by
  obtain ⟨sl, cap, e, i⟩ := own_ints (h.each r hr)
  exact ⟨sl, cap, e, i, own_len (h.each r hr)⟩
 have hr := h.row
 rcases hr.2 with ⟨hv, h0⟩ | ⟨g, cap, cur, hv, hb, hg, _⟩
 ·exact ⟨none, 0, by rw [hv, h0], .inl (List.eq_nil_of_length_eq_zero h0), each⟩
 ·refine ⟨_, cap, hv, .inr ⟨g, 0, rfl, (Array.getElem?_eq_some_iff.1 hg).1, fun i hi => ?_⟩, each⟩
  subst hv
  rw [Nat.zero_add, hr.cellAt i (by omega)]
  simp [hdC, hi]
end Go.Proofs.YtnihhbfgbilimaaGreatDoor
namespace Go.Proofs.YtnihhbfgbilimaaGreatDoor
open Go.RowKit Go.Shelf
set_option linter.unusedVariables false
attribute [local go_sem] Oper.semAt_some
end Go.Proofs.YtnihhbfgbilimaaGreatDoor
namespace Go.Proofs.YtnihhbfgbilimaaGreatDoor
open Go.RowKit Go.Shelf
set_option linter.unusedVariables false
attribute [local go_sem] Oper.semAt_some
def RowZ (w : World) (g : Nat) (zs : List Int) : Prop := RowAt w g (vsOf zs zs.length)
theorem RowZ.lt {w : World} {g : Nat} {zs : List Int} (h : RowZ w g zs) : g < w.heap.size := RowAt.lt h
theorem RowZ.below {w w' : World} {g : Nat} {zs : List Int} (h : RowZ w g zs) (hb : Below w.heap.size w w') : RowZ w' g zs := (hb.block g h.lt).trans h
theorem RowZ.ints {w : World} {g : Nat} {zs : List Int} (h : RowZ w g zs) : Ints w (some ⟨g, 0, none⟩) zs := .inr ⟨g, 0, rfl, RowAt.ints h (Nat.le_refl _)⟩
def marks (k : Int) (n : Nat) : List Int := (List.range n).map (fun i : Nat => k + (i : Int))
def Marked (w : World) (b s : Nat) (k : Int) (i : Nat) : Prop := ∃ vs : Array Value, RowAt w b vs ∧ vs.size = s ∧ ∀ j, j < i → vs[j]? = some (.int .i64 (k + (j : Int)))
theorem Marked.cell {w : World} {b s : Nat} {k : Int} {i : Nat} (h : Marked w b s k i) (j : Nat) (hj : j < s) : (∃ v, w.cell? ⟨b, j, none⟩ = some v) ∧ w.frozen? ⟨b, j, none⟩ = false := by
 obtain ⟨vs, h1, h2, h3⟩ := h
 exact ⟨⟨vs[j]'(by omega), by rw [h1.cell j]; exact Array.getElem?_eq_getElem (by omega)⟩, h1.frozen j⟩
theorem Marked.at {w : World} {b s : Nat} {k : Int} {i : Nat} (h : Marked w b s k i) (j : Nat) (hj : j < i) : w.cell? ⟨b, j, none⟩ = some (.int .i64 (k + (j : Int))) := by
 obtain ⟨vs, h1, h2, h3⟩ := h
 rw [h1.cell j]; exact h3 j hj
theorem Only.grownBy {b : Nat} {w w' : World} (h : Only b w w') : w.grownBy w' (some b) := ⟨h.os, h.tape, h.output, h.size, fun k hk hne => h.block k hk (fun e => hne (by rw [e]))⟩
structure Btw (B L : Nat) (w w' : World) : Prop where
 os : w'.os = w.os
 tape : w'.tape = w.tape
 output : w'.output = w.output
 size : w.heap.size ≤ w'.heap.size
 block : ∀ k, k < w.heap.size → (k < B ∨ L ≤ k) → w'.heap[k]? = w.heap[k]?
theorem Btw.refl (B L : Nat) (w : World) : Btw B L w w := ⟨rfl, rfl, rfl, Nat.le_refl _, fun _ _ _ => rfl⟩
theorem Btw.trans {B L : Nat} {u v w : World} (h : Btw B L u v) (k : Btw B L v w) : Btw B L u w :=
 ⟨k.os.trans h.os, k.tape.trans h.tape, k.output.trans h.output, Nat.le_trans h.size k.size, fun j hj hc => (k.block j (Nat.lt_of_lt_of_le hj h.size) hc).trans (h.block j hj hc)⟩
theorem Btw.grown {B L : Nat} {w0 w w' : World} {row : Option Nat} (h : Btw B L w0 w) (hg : w.grownBy w' row) (hr : ∀ j, row = some j → B ≤ j ∧ j < L) : Btw B L w0 w' :=
 h.trans ⟨hg.os, hg.tape, hg.output, hg.size, fun k hk hc => hg.block k hk (fun e => by have := hr k e.symm; omega)⟩
theorem Btw.alloc {B L : Nat} (w : World) (o : Obj) : Btw B L w (w.alloc o) := (Btw.refl B L w).grown (World.grownBy_alloc w o none) (fun j hj => by cases hj)
theorem Btw.below {B L : Nat} {w w' : World} (h : Btw B L w w') (hB : B ≤ w.heap.size) : Below B w w' := ⟨h.os, h.tape, h.output, h.size, fun k hk => h.block k (Nat.lt_of_lt_of_le hk hB) (.inl hk)⟩
theorem Btw.only {B L g : Nat} {w0 w w' : World} (h : Btw B L w0 w) (hg : Only g w w') (h1 : B ≤ g) (h2 : g < L) : Btw B L w0 w' := h.grown hg.grownBy (fun j hj => by cases hj; exact ⟨h1, h2⟩)
def ClOwn (b : Nat) (w : World) (r : LCl) : Prop := ∃ g, r.1 = .slice (some ⟨g, 0, none⟩) r.2.length r.2.length ∧ RowZ w g r.2 ∧ b < g ∧ r.2.length ≤ 1048576
theorem ClOwn.below {b : Nat} {w w' : World} {r : LCl} (h : ClOwn b w r) (hb : Below w.heap.size w w') : ClOwn b w' r := by
 obtain ⟨g, e, hi, hg, hl⟩ := h
 exact ⟨g, e, hi.below hb, hg, hl⟩
theorem ClOwn.out {b : Nat} {w : World} {r : LCl} (h : ClOwn b w r) : ClOut b w r := by
 obtain ⟨g, e, hi, hg, hl⟩ := h
 exact ⟨g, e, hi.ints, hg, hl⟩
structure CnO (C : Nat) (w : World) (b : Nat) (cs : List LCl) : Prop where
 row : RowV w b cs.length (cs.map fun r => r.1)
 each : ∀ r ∈ cs, ClOwn b w r
 lo : C ≤ b
theorem CnO.below {C : Nat} {w w' : World} {b : Nat} {cs : List LCl} (h : CnO C w b cs) (hb : Below w.heap.size w w') : CnO C w' b cs := ⟨h.row.below hb, fun r hr => (h.each r hr).below hb, h.lo⟩
structure ClM (C L : Nat) (w : World) (b : Nat) (cs : List LCl) : Prop where
 row : ∃ vs : Array Value, w.heap[b]? = some (.cells vs 34) ∧ vs.size = cs.length ∧ ∀ i (h : i < cs.length), vs[i]? = some cs[i].1
 each : ∀ r ∈ cs, ∃ g us, r.1 = .slice (some ⟨g, 0, none⟩) r.2.length r.2.length ∧ RowAt w g us ∧ us.size = r.2.length ∧ C ≤ g ∧ g < L
 lo : C ≤ b
 hi : b < L
theorem ClM.below {C L : Nat} {w w' : World} {b : Nat} {cs : List LCl} (h : ClM C L w b cs) (hb : Below w.heap.size w w') : ClM C L w' b cs := by
 refine ⟨?_, fun r hr => ?_, h.lo, h.hi⟩
 ·obtain ⟨vs, h1, h2⟩ := h.row
  exact ⟨vs, (hb.block b (Array.getElem?_eq_some_iff.1 h1).1).trans h1, h2⟩
 ·obtain ⟨g, us, e, hz, r⟩ := h.each r hr
  exact ⟨g, us, e, (hb.block g hz.lt).trans hz, r⟩
theorem ClM.at {C L : Nat} {w : World} {b : Nat} {cs : List LCl} (h : ClM C L w b cs) (i : Nat) (hi : i < cs.length) : b < w.heap.size ∧ w.cell? ⟨b, i, none⟩ = some cs[i].1 := by
 obtain ⟨vs, h1, h2, h3⟩ := h.row
 exact ⟨(Array.getElem?_eq_some_iff.1 h1).1, by simp [World.cell?, h1, h3 i hi]⟩
def BoxW (w : World) (b : Nat) (v : Value) (x1 x2 : Int) : Prop := w.heap[b]? = some (.cells #[v, .int .i64 x1, .int .i64 x2] 170)
theorem BoxW.facts {w : World} {b : Nat} {x1 x2 : Int} {v : Value} (h : BoxW w b v x1 x2) : b < w.heap.size ∧ w.cell? ⟨b, 0, none⟩ = some v ∧ w.cell? ⟨b, 1, none⟩ = some (.int .i64 x1) ∧ w.cell? ⟨b, 2, none⟩ = some (.int .i64 x2) := by
 unfold BoxW at h
 refine ⟨(Array.getElem?_eq_some_iff.1 h).1, ?_, ?_, ?_⟩ <;> simp [World.cell?, h]
theorem BoxW.below {w w' : World} {b : Nat} {x1 x2 : Int} {v : Value} (h : BoxW w b v x1 x2) (hb : Below w.heap.size w w') : BoxW w' b v x1 x2 := (hb.block b h.facts.1).trans h
def OwZ (w : World) (B : Nat) (v : Value) (n : Nat) (xs : List Value) : Prop := w.ownsRow B 2 1 v n xs
theorem OwZ.below {w w' : World} {B : Nat} {v : Value} {n : Nat} {xs : List Value} (h : OwZ w B v n xs) (hb : Below w.heap.size w w') : OwZ w' B v n xs := own_below h hb
def OwL (w : World) (L : Nat) (v : Value) (n : Nat) (xs : List Value) : Prop := (∃ B, w.ownsRow B 2 1 v n xs) ∧ (∀ j, v.ownBlock = some j → j < L) ∧ L ≤ w.heap.size
theorem OwL.below {w w' : World} {L : Nat} {v : Value} {n : Nat} {xs : List Value} (h : OwL w L v n xs) (hb : Below w.heap.size w w') : OwL w' L v n xs := by
 obtain ⟨⟨B, h1⟩, h2, h3⟩ := h
 exact ⟨⟨B, own_below h1 hb⟩, h2, Nat.le_trans h3 hb.size⟩
end Go.Proofs.YtnihhbfgbilimaaGreatDoor
