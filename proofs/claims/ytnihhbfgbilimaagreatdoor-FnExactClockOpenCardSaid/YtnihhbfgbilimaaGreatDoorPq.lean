import Derived.Test.YtnihhbfgbilimaaGreatDoorVac
import Derived.Test.YtnihhbfgbilimaaGreatDoorPy
import Derived.RegionTactic
import Derived.ChangeAlike
import Derived.Deep.LoopGhost
import Derived.Deep.RegionWith
namespace Go.Proofs.YtnihhbfgbilimaaGreatDoor
open Go.RowKit
set_option linter.unusedVariables false
set_option linter.unusedSimpArgs false
def valsN (ps : List Nat) : List Value := ps.map fun p : Nat => Value.int .i64 (p : Int)
theorem valsN_add (a b : List Nat) : valsN (a ++ b) = valsN a ++ valsN b := by simp [valsN]
abbrev nilV : Value := .slice none 0 0
theorem own_typed {w W : World} {B : Nat} {e : TypeId} {m : Nat} {v : Value} {n : Nat} {xs : List Value} (h : w.ownsRow B e m v n xs) (hk : ∀ k us, B ≤ k → w.heap[k]? = some (.cells us e) → W.heap[k]? = some (.cells us e)) : W.ownsRow B e m v n xs := by
 refine ⟨h.1, ?_⟩
 rcases h.2 with h | ⟨g, cap, cur, hv, hg, hh, r⟩
 ·exact .inl h
 ·exact .inr ⟨g, cap, cur, hv, hg, hk g cur hg hh, r⟩
theorem own_box {W : World} {C : Nat} {e : TypeId} {m : Nat} {v : Value} {n : Nat} {xs : List Value} {X : Nat} {us : Array Value} {t : TypeId} (h : W.ownsRow C e m v n xs) (hx : W.heap[X]? = some (.cells us t)) (hne : t ≠ e) (i : Nat) (u : Value) : (W.setCell ⟨X, i, none⟩ u).ownsRow C e m v n xs := by
 refine own_typed h (fun k cur _ hk => ?_)
 refine (Below.heap_setCell _ _ _ _ ?_).trans hk
 intro e'
 have e'' : k = X := e'
 rw [e'', hx] at hk
 cases hk
 exact hne rfl
structure OnlyK (B : Nat) (u v : World) : Prop where
 os : v.os = u.os
 tape : v.tape = u.tape
 output : v.output = u.output
 size : u.heap.size ≤ v.heap.size
 block : ∀ k o, u.heap[k]? = some o → (k < B ∨ ∀ us t, o = .cells us t → t ≠ 241 ∧ t ≠ 289 ∧ t ≠ 3) → v.heap[k]? = some o
theorem OnlyK.refl (B : Nat) (u : World) : OnlyK B u u := ⟨rfl, rfl, rfl, Nat.le_refl _, fun _ _ h _ => h⟩
theorem OnlyK.trans {B : Nat} {u v w : World} (h : OnlyK B u v) (g : OnlyK B v w) : OnlyK B u w := ⟨g.os.trans h.os, g.tape.trans h.tape, g.output.trans h.output, Nat.le_trans h.size g.size, fun k o hk hc => g.block k o (h.block k o hk hc) hc⟩
theorem OnlyK.of_below {B : Nat} {u v : World} (h : Below u.heap.size u v) : OnlyK B u v := ⟨h.os, h.tape, h.output, h.size, fun k o hk _ => (h.block k (Array.getElem?_eq_some_iff.1 hk).1).trans hk⟩
theorem OnlyK.drew {B : Nat} {u v : World} (h : OnlyK B u v) : OnlyK B u v.drew := ⟨h.os, h.tape, h.output, h.size, h.block⟩
theorem OnlyK.set {B : Nat} {u : World} {X i : Nat} {us : Array Value} (hB : B ≤ X) (hx : u.heap[X]? = some (.cells us 241)) (x : Value) : OnlyK B u (u.setCell ⟨X, i, none⟩ x) :=
 ⟨rfl, rfl, rfl, by simp, fun k o hk hc => by
  refine (Below.heap_setCell _ _ _ _ ?_).trans hk
  intro e
  have e' : k = X := e
  subst e'
  rw [hx] at hk
  cases hk
  rcases hc with hc | hc
  ·omega
  ·exact (hc _ _ rfl).1 rfl⟩
theorem OnlyK.grown {B B' : Nat} {u v : World} {e : TypeId} {m n : Nat} {r : Value} {xs : List Value} (ho : u.ownsRow B' e m r n xs) (hB : B ≤ B') (he : e = 289 ∨ e = 3) (hg : u.grownBy v r.ownBlock) : OnlyK B u v :=
 ⟨hg.os, hg.tape, hg.output, hg.size, fun k o hk hc => by
  refine (hg.block k (Array.getElem?_eq_some_iff.1 hk).1 ?_).trans hk
  intro e'
  obtain ⟨cur, h2⟩ := own_kind ho e'.symm
  rw [h2] at hk
  cases hk
  rcases hc with hc | hc
  ·have := (ho.lt k e'.symm).1; omega
  ·have := hc _ _ rfl
   rcases he with rfl | rfl
   ·exact this.2.1 rfl
   ·exact this.2.2 rfl⟩
theorem OnlyK.below {B : Nat} {u v : World} (h : OnlyK B u v) (hs : B ≤ u.heap.size) : Below B u v :=
 ⟨h.os, h.tape, h.output, h.size, fun k hk => by
  have hlt : k < u.heap.size := by omega
  have : u.heap[k]? = some u.heap[k] := Array.getElem?_eq_getElem hlt
  rw [this]
  exact h.block k _ this (.inl hk)⟩
structure Bk (B bb : Nat) (vc : Value) (hs : List Value) (ms : List LCl) (rows : Nat → List Nat) (W : World) : Prop where
 hb : B ≤ bb
 blk : W.heap[bb]? = some (.cells (vc :: hs).toArray 241)
 len : hs.length = 193
 rc : W.ownsRow B 289 1 vc ms.length (hdC ms)
 row : ∀ i, i < 193 → W.ownsRow B 3 1 (hs.getD i nilV) (rows i).length (valsN (rows i))
 diff : ∀ i j, i < 193 → j < 193 → i ≠ j → ∀ g, (hs.getD i nilV).ownBlock = some g → (hs.getD j nilV).ownBlock ≠ some g
section
variable {B bb : Nat} {vc : Value} {hs : List Value} {ms : List LCl} {rows : Nat → List Nat} {W W' : World}
theorem Bk.lt (h : Bk B bb vc hs ms rows W) : bb < W.heap.size := (Array.getElem?_eq_some_iff.1 h.blk).1
theorem Bk.facts (h : Bk B bb vc hs ms rows W) : bb < W.heap.size ∧ W.cell? ⟨bb, 0, none⟩ = some vc ∧ ∀ k, W.frozen? ⟨bb, k, none⟩ = false :=
 ⟨h.lt, by simp [World.cell?, h.blk], fun k => by simp [World.frozen?, h.blk]⟩
theorem Bk.at (h : Bk B bb vc hs ms rows W) {i : Nat} (hi : i < 193) : W.cell? ⟨bb, 1 + i, none⟩ = some (hs.getD i nilV) := by
 have hl : i < hs.length := by rw [h.len]; exact hi
 have : W.cell? ⟨bb, 1 + i, none⟩ = (vc :: hs)[1 + i]? := by simp [World.cell?, h.blk]
 rw [this, Nat.add_comm, List.getElem?_cons_succ, List.getElem?_eq_getElem hl]
 simp [List.getD_eq_getElem?_getD, hl]
theorem Bk.kept (h : Bk B bb vc hs ms rows W) (hk : ∀ k us t, (t = 241 ∨ t = 289 ∨ t = 3) → B ≤ k → W.heap[k]? = some (.cells us t) → W'.heap[k]? = some (.cells us t)) : Bk B bb vc hs ms rows W' :=
 ⟨h.hb, hk bb _ _ (.inl rfl) h.hb h.blk, h.len, own_typed h.rc (fun k us hB e => hk k us _ (.inr (.inl rfl)) hB e), fun i hi => own_typed (h.row i hi) (fun k us hB e => hk k us _ (.inr (.inr rfl)) hB e), h.diff⟩
theorem Bk.below (h : Bk B bb vc hs ms rows W) (hb : Below W.heap.size W W') : Bk B bb vc hs ms rows W' :=
 h.kept (fun k us t _ _ e => (hb.block k (Array.getElem?_eq_some_iff.1 e).1).trans e)
theorem Bk.only (h : Bk B bb vc hs ms rows W) {b : Nat} {us : Array Value} {t : TypeId} (ho : Only b W W') (hx : W.heap[b]? = some (.cells us t)) (ht : t ≠ 241 ∧ t ≠ 289 ∧ t ≠ 3) : Bk B bb vc hs ms rows W' :=
 h.kept (fun k us t' h1 _ e => (ho.block k (Array.getElem?_eq_some_iff.1 e).1 (fun e' => by
  rw [e', hx] at e
  cases e
  rcases h1 with h1 | h1 | h1
  ·exact ht.1 h1
  ·exact ht.2.1 h1
  ·exact ht.2.2 h1)).trans e)
theorem Bk.put (h : Bk B bb vc hs ms rows W) {i0 : Nat} (hi0 : i0 < 193) {v9 : Value} {ps : List Nat} (hg : W.grownBy W' (hs.getD i0 nilV).ownBlock) (ho : W'.ownsRow B 3 1 v9 ps.length (valsN ps)) (hj : ∀ j, v9.ownBlock = some j → (hs.getD i0 nilV).ownBlock = some j ∨ j = W.heap.size) :
  Bk B bb vc (hs.set i0 v9) ms (fun i => if i = i0 then ps else rows i) (W'.setCell ⟨bb, 1 + i0, none⟩ v9) := by
 have hl0 : i0 < hs.length := by rw [h.len]; exact hi0
 have hne : (hs.getD i0 nilV).ownBlock ≠ some bb := fun e => by
  obtain ⟨cur, hc⟩ := own_kind (h.row i0 hi0) e
  rw [h.blk] at hc
  cases hc
 have hblk : W'.heap[bb]? = some (.cells (vc :: hs).toArray 241) := (hg.block bb h.lt (fun e => hne e.symm)).trans h.blk
 have hget : ∀ i, i < 193 → (hs.set i0 v9).getD i nilV = if i = i0 then v9 else hs.getD i nilV := fun i _ => getD_set _ _ _ _ _ hl0
 refine ⟨h.hb, ?_, by rw [List.length_set]; exact h.len, own_box (h.rc.kept hg (own_diff h.rc (h.row i0 hi0) (by decide))) hblk (by decide) _ _, fun i hi => ?_, fun i j hi hj' hij g e1 e2 => ?_⟩
 ·have := heap_setCell_same W' bb (1 + i0) _ 241 v9 hblk
  rw [List.setIfInBounds_toArray, Nat.add_comm 1 i0, List.set_cons_succ] at this
  rw [Nat.add_comm 1 i0]
  exact this
 ·rw [hget i hi]
  by_cases e : i = i0
  ·simp only [if_pos e]
   exact own_box ho hblk (by decide) _ _
  ·simp only [if_neg e]
   refine own_box ((h.row i hi).kept hg ?_) hblk (by decide) _ _
   rcases hq : (hs.getD i nilV).ownBlock with _ | g
   ·exact .inl rfl
   ·exact .inr (fun e2 => h.diff i i0 hi hi0 e g hq e2.symm)
 ·rw [hget i hi] at e1
  rw [hget j hj'] at e2
  by_cases ei : i = i0
  ·have ej : ¬ j = i0 := fun e => hij (ei.trans e.symm)
   rw [if_pos ei] at e1
   rw [if_neg ej] at e2
   rcases hj g e1 with e3 | e3
   ·exact h.diff i0 j hi0 hj' (fun e => ej e.symm) g e3 e2
   ·have := ((h.row j hj').lt g e2).2
    omega
  ·rw [if_neg ei] at e1
   by_cases ej : j = i0
   ·rw [if_pos ej] at e2
    rcases hj g e2 with e3 | e3
    ·exact h.diff i i0 hi hi0 ei g e1 e3
    ·have := ((h.row i hi).lt g e1).2
     omega
   ·rw [if_neg ej] at e2
    exact h.diff i j hi hj' hij g e1 e2
theorem Bk.clause (h : Bk B bb vc hs ms rows W) {r : LCl} {v9 : Value} (hg : W.grownBy W' vc.ownBlock) (ho : W'.ownsRow B 289 1 v9 (ms.length + 1) (hdC ms ++ [r.1])) :
  Bk B bb v9 hs (ms ++ [r]) rows (W'.setCell ⟨bb, 0, none⟩ v9) := by
 have hne : vc.ownBlock ≠ some bb := fun e => by
  obtain ⟨cur, hc⟩ := own_kind h.rc e
  rw [h.blk] at hc
  cases hc
 have hblk : W'.heap[bb]? = some (.cells (vc :: hs).toArray 241) := (hg.block bb h.lt (fun e => hne e.symm)).trans h.blk
 have ho' : W'.ownsRow B 289 1 v9 (ms ++ [r]).length (hdC (ms ++ [r])) := by
  rw [hdC_add, List.length_append]; exact ho
 refine ⟨h.hb, ?_, h.len, own_box ho' hblk (by decide) _ _, fun i hi => own_box ((h.row i hi).kept hg (own_diff (h.row i hi) h.rc (by decide))) hblk (by decide) _ _, h.diff⟩
 have := heap_setCell_same W' bb 0 _ 241 v9 hblk
 rw [List.setIfInBounds_toArray, List.set_cons_zero] at this
 exact this
theorem Bk.rows_eq {rows' : Nat → List Nat} (h : Bk B bb vc hs ms rows W) (e : ∀ i, i < 193 → rows i = rows' i) : Bk B bb vc hs ms rows' W :=
 ⟨h.hb, h.blk, h.len, h.rc, fun i hi => by rw [← e i hi]; exact h.row i hi, h.diff⟩
end
theorem below_drew' (W : World) : Below W.heap.size W W.drew := (Below.refl _ _).drew
theorem cell_at_new (w : World) (a : Value) (t : TypeId) : ∀ (j : Nat) (u : Value), [a][j]? = some u → (w.alloc (.cells #[a] t)).cell? ((⟨w.heap.size, 0, none⟩ : Addr).add j) = some u := by
 intro j u h
 cases j with
 | zero =>
  simp at h
  subst h
  have n := new_at w (.cells #[a] t)
  show (w.alloc (.cells #[a] t)).cell? ⟨w.heap.size, 0 + 0, none⟩ = some a
  unfold World.cell?
  rw [show (w.alloc (.cells #[a] t)).heap[w.heap.size]? = some (.cells #[a] t) from n]
  rfl
 | succ j => simp at h
theorem info3' : (Tryz.prog.info? 3).map (fun i => (i.zero, i.size, i.bytes)) = some (some (.int .i64 0), 1, 8) := by kernel_rfl
theorem info128 : (Tryz.prog.info? 289).map (fun i => (i.zero, i.size, i.bytes)) = some (some (.slice none 0 0), 1, 24) := by kernel_rfl
theorem appN {w : World} {B : Nat} {v : Value} {ps : List Nat} (h : w.ownsRow B 3 1 v ps.length (valsN ps)) (p c : Nat) (hc : ∀ (j : Nat) (x : Value), [Value.int .i64 (p : Int)][j]? = some x → w.cell? ((⟨c, 0, none⟩ : Addr).add j) = some x) (hB : B ≤ w.heap.size) (hl : ps.length ≤ 100000) :
  ∃ v9 w9, (∀ ty, (Builtin.append_ #[238, 238] ty #[v, .slice (some ⟨c, 0, none⟩) 1 1]).run Tryz.prog w = .ok v9 w9) ∧ w9.ownsRow B 3 1 v9 (ps ++ [p]).length (valsN (ps ++ [p])) ∧ w.grownBy w9 v.ownBlock ∧ ∀ j, v9.ownBlock = some j → v.ownBlock = some j ∨ j = w.heap.size := by
 obtain ⟨i3, hi3, hd0, hd1, hd2⟩ := info_parts info3'
 obtain ⟨g, c9, w9, hr, own9, grow9, hg, -⟩ := run_append_lies (P := Tryz.prog) w 238 238 B 3 i3 (.int .i64 0) 1 8 Tryz.underlying238 hi3 hd0 hd1 hd2 rfl (by decide) _ _ _ h ⟨c, 0, none⟩ 1 1 [.int .i64 (p : Int)] rfl hc (by intro x hx; rw [List.mem_singleton.1 hx]; rfl) (by decide) (by unfold maxLen; omega) (by omega) hB w.heap.size rfl
 refine ⟨_, w9, fun ty => hr, by rw [List.length_append, valsN_add]; exact own9, grow9, fun j hj => ?_⟩
 have e : j = g := by simp [Value.ownBlock] at hj; exact hj.symm
 rcases hg with hg | hg
 ·exact .inl (by rw [hg, e])
 ·exact .inr (by omega)
theorem appK {w : World} {B : Nat} {v : Value} {us : List Value} (h : w.ownsRow B 289 1 v us.length us) (u : Value) (hu : u.oneCell' = true) (c : Nat) (hc : ∀ (j : Nat) (x : Value), [u][j]? = some x → w.cell? ((⟨c, 0, none⟩ : Addr).add j) = some x) (hB : B ≤ w.heap.size) (hl : us.length ≤ 100000) :
  ∃ v9 w9, (∀ ty, (Builtin.append_ #[237, 237] ty #[v, .slice (some ⟨c, 0, none⟩) 1 1]).run Tryz.prog w = .ok v9 w9) ∧ w9.ownsRow B 289 1 v9 (us.length + 1) (us ++ [u]) ∧ w.grownBy w9 v.ownBlock := by
 obtain ⟨i3, hi3, hd0, hd1, hd2⟩ := info_parts info128
 obtain ⟨g, c9, w9, hr, own9, grow9, hg, -⟩ := run_append_lies (P := Tryz.prog) w 237 237 B 289 i3 (.slice none 0 0) 1 24 Tryz.underlying237 hi3 hd0 hd1 hd2 rfl (by decide) _ _ _ h ⟨c, 0, none⟩ 1 1 [u] rfl hc (by intro x hx; rw [List.mem_singleton.1 hx]; exact hu) (by decide) (by unfold maxLen; omega) (by omega) hB w.heap.size rfl
 exact ⟨_, w9, fun ty => hr, own9, grow9⟩
end Go.Proofs.YtnihhbfgbilimaaGreatDoor
