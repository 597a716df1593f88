import Derived.Test.YtnihhbfgbilimaaGreatDoorVab
import Derived.Lib.SliceRun
namespace Go.Proofs.YtnihhbfgbilimaaGreatDoor
open Go.RowKit
set_option linter.unusedVariables false
noncomputable def val (tr : List Int) (z : Int) : Int := @ite _ (z ∈ tr) (Classical.propDecidable _) 1 (@ite _ (-z ∈ tr) (Classical.propDecidable _) (-1) 0)
theorem val_yes {tr : List Int} {z : Int} (h : z ∈ tr) : val tr z = 1 := by unfold val; rw [if_pos h]
theorem val_neg {tr : List Int} {z : Int} (h : z ∉ tr) (h2 : -z ∈ tr) : val tr z = -1 := by unfold val; rw [if_neg h, if_pos h2]
theorem val_no {tr : List Int} {z : Int} (h : z ∉ tr) (h2 : -z ∉ tr) : val tr z = 0 := by unfold val; rw [if_neg h, if_neg h2]
theorem val_cases (tr : List Int) (z : Int) : (val tr z = 1 ∧ z ∈ tr) ∨ (val tr z = -1 ∧ z ∉ tr ∧ -z ∈ tr) ∨ (val tr z = 0 ∧ z ∉ tr ∧ -z ∉ tr) := by
 by_cases h : z ∈ tr
 ·exact .inl ⟨val_yes h, h⟩
 ·by_cases h2 : -z ∈ tr
  ·exact .inr (.inl ⟨val_neg h h2, h, h2⟩)
  ·exact .inr (.inr ⟨val_no h h2, h, h2⟩)
theorem val_iff {a b : List Int} {x : Int} (e1 : x ∈ a ↔ x ∈ b) (e2 : -x ∈ a ↔ -x ∈ b) : val b x = val a x := by
 rcases val_cases a x with ⟨e, h1⟩ | ⟨e, h1, h2⟩ | ⟨e, h1, h2⟩
 ·rw [e, val_yes (e1.1 h1)]
 ·rw [e, val_neg (fun h => h1 (e1.2 h)) (e2.1 h2)]
 ·rw [e, val_no (fun h => h1 (e1.2 h)) (fun h => h2 (e2.2 h))]
def Cons (tr : List Int) : Prop := ∀ z ∈ tr, -z ∉ tr
theorem val_minus {tr : List Int} (h : Cons tr) (z : Int) : -val tr (-z) = val tr z := by
 rcases val_cases tr z with ⟨e, h1⟩ | ⟨e, h1, h2⟩ | ⟨e, h1, h2⟩
 ·rw [e, val_neg (h z h1) (by simpa using h1)]; rfl
 ·rw [e, val_yes h2]
 ·rw [e, val_no h2 (by simpa using h1)]; rfl
noncomputable def vL (tr : List Int) : List Value := (List.range 97).map fun k : Nat => Value.int .i64 (val tr (k : Int))
def VAt (d : Nat) (bt : TypeId) (fh : List Value) (w : World) (b : Nat) (tr : List Int) : Prop := fh.length = d ∧ w.heap[b]? = some (.cells (fh ++ vL tr).toArray bt)
theorem vL_len (tr : List Int) : (vL tr).length = 97 := by simp [vL]
theorem vL_at (tr : List Int) (k : Nat) (h : k < 97) : (vL tr)[k]? = some (.int .i64 (val tr (k : Int))) := by simp [vL, h]
variable {d : Nat} {bt : TypeId} {fh : List Value}
theorem VAt.lt {w : World} {b : Nat} {tr : List Int} (h : VAt d bt fh w b tr) : b < w.heap.size := (Array.getElem?_eq_some_iff.1 h.2).1
theorem VAt.cell {w : World} {b : Nat} {tr : List Int} (h : VAt d bt fh w b tr) (k : Nat) (hk : k < 97) : w.cell? ⟨b, d + k, none⟩ = some (.int .i64 (val tr (k : Int))) := by
 have : w.cell? ⟨b, d + k, none⟩ = (fh ++ vL tr)[d + k]? := by simp [World.cell?, h.2]
 rw [this, List.getElem?_append_right (by rw [h.1]; omega), h.1, Nat.add_sub_cancel_left, vL_at tr k hk]
theorem VAt.frozen {w : World} {b : Nat} {tr : List Int} (h : VAt d bt fh w b tr) (k : Nat) : w.frozen? ⟨b, k, none⟩ = false := by simp [World.frozen?, h.2]
theorem VAt.kept {w w' : World} {b : Nat} {tr : List Int} (h : VAt d bt fh w b tr) (e : w'.heap[b]? = w.heap[b]?) : VAt d bt fh w' b tr := ⟨h.1, e.trans h.2⟩
theorem VAt.below {w w' : World} {b : Nat} {tr : List Int} (h : VAt d bt fh w b tr) (hb : Below w.heap.size w w') : VAt d bt fh w' b tr := ⟨h.1, (hb.block b h.lt).trans h.2⟩
theorem vL_put (tr : List Int) (z : Int) (i : Nat) (u : Int) (h1 : z ∉ tr) (h2 : -z ∉ tr) (hi : (z = (i : Int) ∧ u = 1) ∨ (z = -(i : Int) ∧ u = -1 ∧ 0 < i)) : (vL tr).set i (.int .i64 u) = vL (tr ++ [z]) := by
 apply List.ext_getElem
 ·simp [vL]
 ·intro k a1 a2
  rw [List.getElem_set]
  simp only [vL, List.getElem_map, List.getElem_range]
  by_cases hk : i = k
  ·subst hk
   rw [if_pos rfl]
   rcases hi with ⟨rfl, rfl⟩ | ⟨rfl, rfl, h0⟩
   ·rw [val_yes (by simp)]
   ·rw [val_neg (by simp at h2 ⊢; exact ⟨h2, by omega⟩) (by simp)]
  ·rw [if_neg hk]
   have e1 : ((k : Int) ∈ tr ++ [z]) ↔ (k : Int) ∈ tr := by
    simp only [List.mem_append, List.mem_singleton]
    exact ⟨fun h => by rcases h with h | h; exact h; rcases hi with ⟨rfl, _⟩ | ⟨rfl, _, _⟩ <;> omega, .inl⟩
   have e2 : (-(k : Int) ∈ tr ++ [z]) ↔ -(k : Int) ∈ tr := by
    simp only [List.mem_append, List.mem_singleton]
    exact ⟨fun h => by rcases h with h | h; exact h; rcases hi with ⟨rfl, _⟩ | ⟨rfl, _, _⟩ <;> omega, .inl⟩
   rw [val_iff e1 e2]
theorem VAt.put {w : World} {b : Nat} {tr : List Int} (h : VAt d bt fh w b tr) (z : Int) (i : Nat) (u : Int) (h1 : z ∉ tr) (h2 : -z ∉ tr) (hi : (z = (i : Int) ∧ u = 1) ∨ (z = -(i : Int) ∧ u = -1 ∧ 0 < i)) : VAt d bt fh (w.setCell ⟨b, d + i, none⟩ (.int .i64 u)) b (tr ++ [z]) := by
 have := heap_setCell_same w b (d + i) _ bt (.int .i64 u) h.2
 rw [List.setIfInBounds_toArray, List.set_append_right _ _ (by rw [h.1]; omega), h.1, Nat.add_sub_cancel_left, vL_put tr z i u h1 h2 hi] at this
 exact ⟨h.1, this⟩
structure Only (b : Nat) (w w' : World) : Prop where
 os : w'.os = w.os
 tape : w'.tape = w.tape
 output : w'.output = w.output
 size : w.heap.size ≤ w'.heap.size
 block : ∀ k, k < w.heap.size → k ≠ b → w'.heap[k]? = w.heap[k]?
theorem Only.refl (b : Nat) (w : World) : Only b w w := ⟨rfl, rfl, rfl, Nat.le_refl _, fun _ _ _ => rfl⟩
theorem Only.trans {b : Nat} {u v w : World} (h : Only b u v) (k : Only b v w) : Only b u w :=
 ⟨k.os.trans h.os, k.tape.trans h.tape, k.output.trans h.output, Nat.le_trans h.size k.size, fun j hj hb => (k.block j (Nat.lt_of_lt_of_le hj h.size) hb).trans (h.block j hj hb)⟩
theorem Only.drew {b : Nat} {u v : World} (h : Only b u v) : Only b u v.drew := ⟨h.os, h.tape, h.output, h.size, h.block⟩
theorem Only.setCell {b : Nat} {u v : World} (h : Only b u v) (o : Nat) (x : Value) : Only b u (v.setCell ⟨b, o, none⟩ x) :=
 ⟨h.os, h.tape, h.output, by simpa using h.size, fun k hk hb => (Below.heap_setCell _ _ _ _ hb).trans (h.block k hk hb)⟩
theorem Only.grown {b : Nat} {u v w : World} {row : Option Nat} (h : Only b u v) (hg : v.grownBy w row) (hr : ∀ g, row = some g → u.heap.size ≤ g) : Only b u w :=
 ⟨hg.os.trans h.os, hg.tape.trans h.tape, hg.output.trans h.output, Nat.le_trans h.size hg.size, fun k hk hb => (hg.block k (Nat.lt_of_lt_of_le hk h.size) (fun e => by have := hr k e.symm; omega)).trans (h.block k hk hb)⟩
theorem Only.alloc {b : Nat} {u v : World} (h : Only b u v) (o : Obj) : Only b u (v.alloc o) := h.grown (World.grownBy_alloc v o none) (fun g hg => by cases hg)
theorem Only.below {b : Nat} {u v w : World} (h : Below u.heap.size u v) (hb : u.heap.size ≤ b) (k : Only b v w) : Below u.heap.size u w :=
 ⟨k.os.trans h.os, k.tape.trans h.tape, k.output.trans h.output, Nat.le_trans h.size k.size, fun j hj => (k.block j (Nat.lt_of_lt_of_le hj h.size) (by omega)).trans (h.block j hj)⟩
theorem Only.cell {b : Nat} {w w' : World} (h : Only b w w') {c o : Nat} (hc : c < w.heap.size) (hb : c ≠ b) : w'.cell? ⟨c, o, none⟩ = w.cell? ⟨c, o, none⟩ := World.cell?_of_block (w := w) (h.block c hc hb)
theorem Cons.put {tr : List Int} {z : Int} (h : Cons tr) (h1 : z ∉ tr) (h2 : -z ∉ tr) (h0 : z ≠ 0) : Cons (tr ++ [z]) := by
 intro y hy hn
 simp only [List.mem_append, List.mem_singleton] at hy hn
 rcases hy with hy | rfl
 ·rcases hn with hn | hn
  ·exact h y hy hn
  ·exact h2 (by rw [← hn]; simpa using hy)
 ·rcases hn with hn | hn
  ·exact h2 hn
  ·omega
set_option maxRecDepth 100000 in
set_option maxHeartbeats 1000000 in
theorem of_any (b : Nat) (tr : List Int) (z : Int) (w : World) (hv : VAt d bt fh w b tr) (hc : Cons tr) (h1 : -96 ≤ z) (h2 : z ≤ 96) :
  Calls Tryz.prog 224 #[.pointer (some ⟨b, d, none⟩), .int .i64 z] w fun e w' => e = .returned (.int .i64 (val tr z)) ∧ w' = w := by
 have hlt := hv.lt
 by_cases h : z < 0
 ·have e : Hid (-val tr (-z) = val tr z) := val_minus hc z
  obtain ⟨k, hk⟩ : ∃ k : Nat, -z = (k : Int) := ⟨(-z).toNat, by omega⟩
  have hcell := hv.cell k (by omega)
  have hw : (-z).toNat = k := by omega
  have hk4 : -z < 97 := by omega
  have hk5 : 0 ≤ -z := by omega
  have hk2 : (k : Int) < 97 := by omega
  have hk3 : k < 97 := by omega
  have e2 : Hid (wrap64 (-val tr (k : Int)) = val tr z) := by
   show wrap64 (-val tr (k : Int)) = val tr z
   rw [← hk, wrap_in, e.out]
   rcases val_cases tr (-z) with ⟨g, _⟩ | ⟨g, _⟩ | ⟨g, _⟩ <;> rw [g] <;> omega
  clear hv hk e
  generalize val tr (k : Int) = y at *
  go_enter Tryz.func224, Tryz.ntmps224
  go_wp2
  go_ret
  exact ⟨by rw [e2.out]; rfl, rfl⟩
 ·obtain ⟨k, rfl⟩ : ∃ k : Nat, z = (k : Int) := ⟨z.toNat, by omega⟩
  have hcell := hv.cell k (by omega)
  have hk2 : (k : Int) < 97 := by omega
  have hk3 : k < 97 := by omega
  clear hv
  generalize val tr (k : Int) = y at *
  go_enter Tryz.func224, Tryz.ntmps224
  go_wp2
  go_ret
  exact ⟨rfl, rfl⟩
set_option maxRecDepth 100000 in
set_option maxHeartbeats 1000000 in
theorem put_any (b : Nat) (tr : List Int) (z : Int) (w : World) (hv : VAt d bt fh w b tr) (h1 : -96 ≤ z) (h2 : z ≤ 96) (h0 : z ≠ 0) (n1 : z ∉ tr) (n2 : -z ∉ tr) :
  Calls Tryz.prog 236 #[.pointer (some ⟨b, d, none⟩), .int .i64 z] w fun e w' => e = .returned (.tuple #[]) ∧ VAt d bt fh w' b (tr ++ [z]) ∧ ∃ i v, w' = w.setCell ⟨b, i, none⟩ v := by
 have hlt := hv.lt
 by_cases h : z < 0
 ·obtain ⟨k, hk⟩ : ∃ k : Nat, -z = (k : Int) := ⟨(-z).toNat, by omega⟩
  have hcell := hv.cell k (by omega)
  have hfr := hv.frozen (d + k)
  have hw : (-z).toNat = k := by omega
  have hk4 : -z < 97 := by omega
  have hk5 : 0 ≤ -z := by omega
  have hk2 : (k : Int) < 97 := by omega
  have hk3 : k < 97 := by omega
  have P := Lib.hid (hv.put z k (-1) n1 n2 (.inr ⟨by omega, rfl, by omega⟩))
  clear hv hk n1 n2
  go_enter Tryz.func236, Tryz.ntmps236
  go_wp2
  refine bodyPost_ret (results_none rfl _ _ _) rfl ?_
  exact ⟨rfl, P.out, _, _, rfl⟩
 ·obtain ⟨k, rfl⟩ : ∃ k : Nat, z = (k : Int) := ⟨z.toNat, by omega⟩
  have hcell := hv.cell k (by omega)
  have hfr := hv.frozen (d + k)
  have hk2 : (k : Int) < 97 := by omega
  have hk3 : k < 97 := by omega
  have P := Lib.hid (hv.put k k 1 n1 n2 (.inl ⟨rfl, rfl⟩))
  clear hv n1 n2
  go_enter Tryz.func236, Tryz.ntmps236
  go_wp2
  go_end0
  exact ⟨rfl, P.out, _, _, rfl⟩
theorem SpTo.pre {vars : Int} {zs : List Int} {k : Nat} (h : SpTo vars zs k) (hk : k ≤ zs.length) : ∀ z ∈ zs.take k, OkZ vars z ∧ -z ∉ zs.take k := by
 intro z hz
 obtain ⟨i, hi, rfl⟩ := List.getElem_of_mem hz
 have hi' : i < k := by simp at hi; omega
 have hg : (zs.take k)[i] = zs.getD i 0 := by simp [show i < zs.length by omega]
 refine ⟨by rw [hg]; exact (h i hi').1, fun hn => ?_⟩
 obtain ⟨j, hj, e⟩ := List.getElem_of_mem hn
 have hj' : j < k := by simp at hj; omega
 have hg2 : (zs.take k)[j] = zs.getD j 0 := by simp [show j < zs.length by omega]
 rw [hg, hg2] at e
 have n0 := (h i hi').1.1
 rcases Nat.lt_trichotomy i j with g | g | g
 ·exact ((h j hj').2 i g).2 (by omega)
 ·subst g; omega
 ·exact ((h i hi').2 j g).2 e
theorem SpTo.cons {vars : Int} {zs : List Int} {k : Nat} (h : SpTo vars zs k) (hk : k ≤ zs.length) : Cons (zs.take k) := fun z hz => (h.pre hk z hz).2
theorem apart_iff (zs : List Int) (k : Nat) (hk : k < zs.length) : Apart zs k k ↔ zs.getD k 0 ∉ zs.take k ∧ -zs.getD k 0 ∉ zs.take k := by
 have hg : ∀ j, j < k → ∀ h : j < (zs.take k).length, (zs.take k)[j] = zs.getD j 0 := fun j hj h => by simp [show j < zs.length by omega]
 constructor
 ·intro h
  refine ⟨fun hm => ?_, fun hm => ?_⟩
  ·obtain ⟨j, hj, e⟩ := List.getElem_of_mem hm
   have hj' : j < k := by simp at hj; omega
   rw [hg j hj' hj] at e
   exact (h j hj').1 e
  ·obtain ⟨j, hj, e⟩ := List.getElem_of_mem hm
   have hj' : j < k := by simp at hj; omega
   rw [hg j hj' hj] at e
   exact (h j hj').2 e
 ·rintro ⟨h1, h2⟩ j hj
  have hl : j < (zs.take k).length := by simp; omega
  refine ⟨fun e => h1 ?_, fun e => h2 ?_⟩
  ·rw [← e, ← hg j hj hl]; exact List.getElem_mem _
  ·rw [← e, ← hg j hj hl]; exact List.getElem_mem _
theorem take_one (zs : List Int) (k : Nat) (hk : k < zs.length) : zs.take (k + 1) = zs.take k ++ [zs.getD k 0] := by
 rw [List.take_succ_eq_append_getElem hk]; simp [hk]
def VBlk (d : Nat) (bt : TypeId) (fh : List Value) (w : World) (b : Nat) : Prop := fh.length = d ∧ ∃ us : List Value, us.length = 97 ∧ w.heap[b]? = some (.cells (fh ++ us).toArray bt)
theorem zero2 : ∀ w, (zeroValue 2).run Tryz.prog w = .ok (.int .i64 0) w := Tryz.zeroValue2
theorem clear_arr (b : Nat) (w : World) (h : VBlk d bt fh w b) (ty : TypeId) :
  ∃ w', (Builtin.clear_ #[34] ty #[.slice (some ⟨b, d, none⟩) 97 97]).run Tryz.prog w = .ok (.tuple #[]) w' ∧ VAt d bt fh w' b [] ∧ Only b w w' ∧ w'.heap.size = w.heap.size := by
 obtain ⟨h6, vs, hs, hb⟩ := h
 have hc : ∀ j, j < 97 → (w.cell? ⟨b, d + j, none⟩).isSome = true := fun j hj => by
  have e : w.cell? ⟨b, d + j, none⟩ = (fh ++ vs)[d + j]? := by simp [World.cell?, hb]
  rw [e, List.getElem?_eq_getElem (by rw [List.length_append]; omega)]; rfl
 have hf : ∀ j, j < 97 → w.frozen? ⟨b, d + j, none⟩ = false := fun j hj => by simp [World.frozen?, hb]
 refine ⟨_, Lib.run_clear_slice w 34 2 ty (.int .i64 0) Tryz.underlying34 zero2 rfl rfl b d 97 97 (by omega) hc hf, ?_⟩
 have key : ∀ (ws : List Value) (o : Nat) (W : World) (us : Array Value), W.heap[b]? = some (.cells us bt) → o + ws.length = us.size → ∃ us', (W.setCells b o ws).heap[b]? = some (.cells us' bt) ∧ us'.size = us.size ∧ (∀ k, k < o → us'[k]? = us[k]?) ∧ (∀ k, k < ws.length → us'[o + k]? = ws[k]?) ∧ Only b W (W.setCells b o ws) ∧ (W.setCells b o ws).heap.size = W.heap.size := by
  intro ws
  induction ws with
  | nil => intro o W us h1 h2; exact ⟨us, h1, rfl, fun _ _ => rfl, fun k hk => by simp at hk, Only.refl _ _, rfl⟩
  | cons v r ih =>
   intro o W us h1 h2
   simp only [List.length_cons] at h2
   obtain ⟨us', g1, g2, g3, g4, g5, g6⟩ := ih (o + 1) (W.setCell ⟨b, o, none⟩ v) (us.setIfInBounds o v) (heap_setCell_same W b o us bt v h1) (by simp; omega)
   refine ⟨us', g1, by rw [g2]; simp, fun k hk => ?_, fun k hk => ?_, ((Only.refl b W).setCell o v).trans g5, by rw [World.setCells, g6]; simp⟩
   ·rw [g3 k (by omega), Array.getElem?_setIfInBounds_ne (by omega)]
   ·cases k with
    | zero => rw [Nat.add_zero, g3 o (by omega), Array.getElem?_setIfInBounds_self_of_lt (by omega)]; rfl
    | succ k =>
     have := g4 k (by simpa using hk)
     rw [show o + (k + 1) = o + 1 + k by omega, this]; simp
 obtain ⟨us', g1, g2, g3, g4, g5, g6⟩ := key (List.replicate 97 (.int .i64 0)) d w (fh ++ vs).toArray hb (by simp [hs, h6])
 have hsz : us'.size = d + 97 := by rw [g2]; simp [hs, h6]
 refine ⟨⟨h6, ?_⟩, g5, g6⟩
 rw [g1]
 suffices hu : us' = (fh ++ vL []).toArray by rw [hu]
 apply Array.ext
 ·rw [hsz]; simp [h6, vL_len]
 ·intro i b1 b2
  apply Option.some.inj
  rw [← Array.getElem?_eq_getElem b1, ← Array.getElem?_eq_getElem b2, show (fh ++ vL []).toArray[i]? = (fh ++ vL [])[i]? by simp]
  by_cases hi : i < d
  ·rw [g3 i hi, show (fh ++ vs).toArray[i]? = (fh ++ vs)[i]? by simp, List.getElem?_append_left (by omega), List.getElem?_append_left (by omega)]
  ·obtain ⟨k, rfl⟩ : ∃ k, i = d + k := ⟨i - d, by omega⟩
   have hk : k < 97 := by omega
   rw [g4 k (by simpa using hk), List.getElem?_append_right (by omega), h6, Nat.add_sub_cancel_left, vL_at [] k hk, val_no (by simp) (by simp), List.getElem?_replicate, if_pos hk]
set_option maxRecDepth 100000 in
set_option maxHeartbeats 4000000 in
theorem take_any (b : Nat) (vars : Int) (sl : Option Addr) (cap : Nat) (zs : List Int) (w : World) (hb : VBlk d bt fh w b) (hv0 : 0 ≤ vars) (hv1 : vars ≤ 96) (hn : zs.length ≤ maxLen) (hz : zs = [] ∨ ∃ c o, sl = some ⟨c, o, none⟩ ∧ IntsAt w c o zs ∧ c ≠ b) :
  Calls Tryz.prog 221 #[.pointer (some ⟨b, d, none⟩), .slice sl zs.length cap, .int .i64 vars] w fun e w' => e = .returned (.bool (B (SpTo vars zs zs.length))) ∧ (SpTo vars zs zs.length → VAt d bt fh w' b zs) ∧ Only b w w' ∧ w'.heap.size = w.heap.size := by
 unfold maxLen at hn
 obtain ⟨w0, hrun, hva, hbl, hsz⟩ := clear_arr b w hb 0
 have hlt := hva.lt
 have hlt0 : b < w.heap.size := by omega
 have HV := Lib.hid hva
 have HB := Lib.hid hbl
 have HS := Lib.hid hsz
 have hnv : wrap64 (-vars) = -vars := wrap_in _ ⟨by omega, by omega⟩
 have ZC : Hid (∀ W, Only b w W → ∀ k, k < zs.length → ∃ c o, sl = some ⟨c, o, none⟩ ∧ W.cell? ⟨c, o + k, none⟩ = some (.int .i64 (zs.getD k 0))) := fun W hW k hk => by
  rcases hz with e | ⟨c, o, e, hi, hc⟩
  ·rw [e] at hk; simp at hk
  ·exact ⟨c, o, e, (hW.cell hi.1 hc).trans (hi.2 k hk)⟩
 have PUT := Lib.hid (show ∀ W k, k < zs.length → VAt d bt fh W b (zs.take k) → OkZ vars (zs.getD k 0) → Apart zs k k → Calls Tryz.prog 236 #[.pointer (some ⟨b, d, none⟩), .int .i64 (zs.getD k 0)] W fun e w' => e = .returned (.tuple #[]) ∧ VAt d bt fh w' b (zs.take (k + 1)) ∧ ∃ i v, w' = W.setCell ⟨b, i, none⟩ v from fun W k hk h1 h2 h3 => by
  rw [take_one zs k hk]
  have := (apart_iff zs k hk).1 h3
  exact put_any b (zs.take k) (zs.getD k 0) W h1 (by have := h2.2.2; omega) (by have := h2.2.1; omega) h2.1 this.1 this.2)
 have OF := Lib.hid (show ∀ W k, k < zs.length → VAt d bt fh W b (zs.take k) → SpTo vars zs k → OkZ vars (zs.getD k 0) → Calls Tryz.prog 224 #[.pointer (some ⟨b, d, none⟩), .int .i64 (zs.getD k 0)] W fun e w' => e = .returned (.int .i64 (val (zs.take k) (zs.getD k 0))) ∧ w' = W from fun W k hk h1 h2 h3 => of_any b (zs.take k) (zs.getD k 0) W h1 (h2.cons (by omega)) (by have := h3.2.2; omega) (by have := h3.2.1; omega))
 have NN := Lib.hid (show ∀ i, i < zs.length → ¬ (OkZ vars (zs.getD i 0) ∧ Apart zs i i) → ¬ SpTo vars zs zs.length from fun i hi h g => h (g i hi))
 have V0 := Lib.hid (show ∀ W, VAt d bt fh W b [] → VAt d bt fh W b (zs.take 0) from fun W h => by simpa using h)
 have VE := Lib.hid (show ∀ W k, zs.length ≤ k → VAt d bt fh W b (zs.take k) → VAt d bt fh W b zs from fun W k hk h => by rwa [List.take_of_length_le hk] at h)
 have AV := Lib.hid (show ∀ k, k < zs.length → (val (zs.take k) (zs.getD k 0) = 0 → Apart zs k k) ∧ (¬ val (zs.take k) (zs.getD k 0) = 0 → ¬ Apart zs k k) from fun k hk => by
  rw [apart_iff zs k hk]
  rcases val_cases (zs.take k) (zs.getD k 0) with ⟨e, h1⟩ | ⟨e, h1, h2⟩ | ⟨e, h1, h2⟩
  ·exact ⟨fun h => by omega, fun _ g => g.1 h1⟩
  ·exact ⟨fun h => by omega, fun _ g => g.2 h2⟩
  ·exact ⟨fun _ => ⟨h1, h2⟩, fun h => absurd e h⟩)
 clear hz hva hbl hsz hb
 generalize hQ : SpTo vars zs zs.length = Q at *
 have HQ := Lib.hid hQ
 clear hQ
 generalize hN : zs.length = n at *
 have HN := Lib.hid hN
 clear hN
 go_enter Tryz.func221, Tryz.ntmps221
 go_wp2
 go_loopw [14] (fun i wr => ∃ k : Nat, i = .int .i64 k ∧ k ≤ n ∧ Hid (SpTo vars zs k) ∧ Hid (VAt d bt fh wr b (zs.take k)) ∧ Hid (Only b w wr) ∧ Hid (wr.heap.size = w.heap.size)) (fun i _ => n - (intOf i).toNat)
 case atStart => exact ⟨0, rfl, Nat.zero_le _, SpTo.zero _ _, V0.out _ HV.out, HB.out, HS.out⟩
 case round =>
  obtain ⟨k, rfl, hk, H1, H2, H3, H4⟩ := hrel
  have hk0 : (0 : Int) ≤ (k : Int) := by omega
  have hltr : b < wr.heap.size := H2.out.lt
  by_cases h1 : k < n
  ·have h1' : (k : Int) < (n : Int) := by omega
   obtain ⟨c, o, rfl, hc⟩ := ZC.out wr H3.out k h1
   have NO := Lib.hid (NN.out k h1)
   by_cases a1 : zs.getD k 0 = 0
   ·have HF := Lib.hid (NO.out (fun g => g.1.1 a1))
    rw [a1] at hc
    clear NO NN AV OF PUT ZC
    go_wp2
    go_ret
    exact ⟨by rw [B_no HF.out]; rfl, fun h => absurd h HF.out, H3.out, H4.out⟩
   have a1' : (zs.getD k 0 == 0) = false := by simpa using a1
   by_cases a2 : zs.getD k 0 < -vars
   ·have HF := Lib.hid (NO.out (fun g => by have := g.1.2.2; omega))
    clear NO NN AV OF PUT ZC
    generalize zs.getD k 0 = z at *
    go_wp2
    go_ret
    exact ⟨by rw [B_no HF.out]; rfl, fun h => absurd h HF.out, H3.out, H4.out⟩
   by_cases a3 : vars < zs.getD k 0
   ·have HF := Lib.hid (NO.out (fun g => by have := g.1.2.1; omega))
    clear NO NN AV OF PUT ZC
    generalize zs.getD k 0 = z at *
    go_wp2
    go_ret
    exact ⟨by rw [B_no HF.out]; rfl, fun h => absurd h HF.out, H3.out, H4.out⟩
   have OK := Lib.hid (show OkZ vars (zs.getD k 0) from ⟨a1, by omega, by omega⟩)
   have CO := Lib.hid (OF.out wr k h1 H2.out H1.out OK.out)
   by_cases a4 : val (zs.take k) (zs.getD k 0) = 0
   ·have AP := Lib.hid ((AV.out k h1).1 a4)
    have CP := Lib.hid (PUT.out wr k h1 H2.out OK.out AP.out)
    have HS2 := Lib.hid (H1.out.step OK.out AP.out)
    rw [a4] at CO
    clear NO NN AV OF PUT ZC AP OK a4
    generalize zs.getD k 0 = z at *
    go_wp2_with fail
    refine CO.out.mono ?_
    rintro e wq ⟨rfl, rfl⟩
    go_wp2_with fail
    refine CP.out.mono ?_
    rintro e wq ⟨rfl, hva, i, v, hset⟩
    have K3 := Lib.hid (show Only b w wq by rw [hset]; exact H3.out.setCell i v)
    have K4 := Lib.hid (show wq.heap.size = w.heap.size by rw [hset]; simpa using H4.out)
    have K2 := Lib.hid hva
    clear hva hset CP CO
    go_wp2
    go_roundw
    case rel => exact ⟨k + 1, by go_num, by omega, HS2, K2, K3, K4⟩
    case measure => simp [intOf]; omega
   ·have HF := Lib.hid (NO.out (fun g => (AV.out k h1).2 a4 g.2))
    have a4' : (val (zs.take k) (zs.getD k 0) == 0) = false := by simpa using a4
    clear NO NN AV OF PUT ZC OK
    generalize val (zs.take k) (zs.getD k 0) = y at *
    generalize zs.getD k 0 = z at *
    go_wp2_with fail
    refine CO.out.mono ?_
    rintro e wq ⟨rfl, rfl⟩
    go_wp2
    go_ret
    exact ⟨by rw [B_no HF.out]; rfl, fun h => absurd h HF.out, H3.out, H4.out⟩
  ·have h1' : ¬ (k : Int) < (n : Int) := by omega
   have HY := Lib.hid (show Q by rw [← HQ.out]; have := H1.out; rwa [show k = n by omega] at this)
   have HE := Lib.hid (VE.out wr k (by omega) H2.out)
   clear NN AV OF PUT ZC
   go_wp2
   go_ret
   exact ⟨by rw [B_yes HY.out]; rfl, fun _ => HE.out, H3.out, H4.out⟩
theorem pig : ∀ (n : Nat) (l : List Nat), l.Nodup → (∀ x ∈ l, 1 ≤ x ∧ x ≤ n) → l.length ≤ n
 | 0, l, _, h => by
  cases l with
  | nil => simp
  | cons a r => have := h a (by simp); omega
 | n + 1, l, hd, h => by
  by_cases hm : n + 1 ∈ l
  ·have h1 := pig n (l.erase (n + 1)) (hd.erase _) (fun x hx => by
    have h2 := (hd.mem_erase_iff).1 hx
    have := h x h2.2
    have := h2.1
    omega)
   rw [List.length_erase_of_mem hm] at h1
   omega
  ·have := pig n l hd (fun x hx => by
    have h2 := h x hx
    have : x ≠ n + 1 := fun e => hm (e ▸ hx)
    omega)
   omega
theorem SpTo.short {vars : Int} {zs : List Int} (h : SpTo vars zs zs.length) (hv : vars ≤ 96) : zs.length ≤ 96 := by
 have h1 : (zs.map Int.natAbs).Nodup := by
  rw [List.nodup_iff_pairwise_ne, List.pairwise_iff_getElem]
  intro i j hi hj hij e
  simp only [List.length_map] at hi hj
  simp only [List.getElem_map] at e
  have g := (h j hj).2 i hij
  simp only [List.getD_eq_getElem?_getD, hi, hj, List.getElem?_eq_getElem, Option.getD_some] at g
  rcases Int.natAbs_eq_natAbs_iff.1 e with e | e
  ·exact g.1 e
  ·exact g.2 e
 have h2 := pig 96 _ h1 (fun x hx => by
  obtain ⟨z, hz, rfl⟩ := List.mem_map.1 hx
  obtain ⟨i, hi, rfl⟩ := List.getElem_of_mem hz
  have g := (h i hi).1
  simp only [List.getD_eq_getElem?_getD, hi, List.getElem?_eq_getElem, Option.getD_some] at g
  obtain ⟨g1, g2, g3⟩ := g
  omega)
 simpa using h2
variable {d : Nat} {bt : TypeId} {fh : List Value}
noncomputable def nfl (tr zs : List Int) : List Int := zs.filter fun z => decide (0 ≤ val tr z)
noncomputable def unitOf (tr zs : List Int) : Option Int :=
 match nfl tr zs with
 | [] => some 0
 | [z] => if val tr z = 0 then some z else none
 | _ => none
theorem nfl_step (tr zs : List Int) (k : Nat) (h : k < zs.length) : nfl tr (zs.take (k + 1)) = if 0 ≤ val tr (zs.getD k 0) then nfl tr (zs.take k) ++ [zs.getD k 0] else nfl tr (zs.take k) := by
 rw [take_one zs k h]
 unfold nfl
 rw [List.filter_append]
 by_cases g : 0 ≤ val tr (zs.getD k 0)
 ·rw [if_pos g, List.filter_cons_of_pos (by simpa using g), List.filter_nil]
 ·rw [if_neg g, List.filter_cons_of_neg (by simpa using g), List.filter_nil, List.append_nil]
theorem nfl_more (tr zs : List Int) (k : Nat) : (nfl tr (zs.take k)).length ≤ (nfl tr zs).length := by
 have := congrArg (fun l => (nfl tr l).length) (List.take_append_drop k zs)
 simp only [nfl, List.filter_append, List.length_append] at this
 unfold nfl
 omega
set_option maxRecDepth 100000 in
set_option maxHeartbeats 1000000 in
theorem nf_any (b : Nat) (tr : List Int) (z : Int) (w : World) (hv : VAt d bt fh w b tr) (hc : Cons tr) (h1 : -96 ≤ z) (h2 : z ≤ 96) :
  Calls Tryz.prog 240 #[.pointer (some ⟨b, d, none⟩), .int .i64 z] w fun e w' => e = .returned (.bool (decide (0 ≤ val tr z))) ∧ w' = w := by
 have E := Lib.hid (of_any b tr z w hv hc h1 h2)
 clear hv hc
 generalize val tr z = y at *
 go_enter Tryz.func240, Tryz.ntmps240
 go_wp2_with fail
 refine E.out.mono ?_
 rintro e w1 ⟨rfl, rfl⟩
 go_wp2
 go_ret
 exact ⟨rfl, rfl⟩
def Pas (nf : List Int) (last : Int) (count : Nat) : Prop := (nf = [] ∧ last = 0 ∧ count = 0) ∨ (nf = [last] ∧ count = 1) ∨ (2 ≤ nf.length ∧ count = 2)
set_option maxRecDepth 100000 in
set_option maxHeartbeats 2000000 in
theorem pas_any (b : Nat) (tr : List Int) (sl : Option Addr) (cap : Nat) (zs : List Int) (w : World) (hv : VAt d bt fh w b tr) (hc : Cons tr) (hn : zs.length ≤ maxLen) (hw : ∀ z ∈ zs, -96 ≤ z ∧ z ≤ 96) (hz : Ints w sl zs) :
  Calls Tryz.prog 239 #[.slice sl zs.length cap, .func (.func 240) #[.pointer (some ⟨b, d, none⟩)] #[]] w fun e w' => ∃ (last : Int) (count : Nat), e = .returned (.tuple #[.int .i64 last, .int .i64 count]) ∧ Hid (Pas (nfl tr zs) last count) ∧ w' = w := by
 unfold maxLen at hn
 have NF := Lib.hid (show ∀ k, k < zs.length → Calls Tryz.prog 240 #[.pointer (some ⟨b, d, none⟩), .int .i64 (zs.getD k 0)] w fun e w' => e = .returned (.bool (decide (0 ≤ val tr (zs.getD k 0)))) ∧ w' = w from fun k hk => by
  have := hw (zs.getD k 0) (by simp [hk])
  exact nf_any b tr _ w hv hc this.1 this.2)
 have ST := Lib.hid (fun k h => nfl_step tr zs k h)
 have MO := Lib.hid (fun k => nfl_more tr zs k)
 have HZ := Lib.hid hz
 have N0 := Lib.hid (show nfl tr (zs.take 0) = [] by simp [nfl])
 have NE := Lib.hid (show ∀ k, zs.length ≤ k → nfl tr (zs.take k) = nfl tr zs from fun k h => by rw [List.take_of_length_le h])
 clear hv hc hw hz
 generalize hN : zs.length = n at *
 have HN := Lib.hid hN
 clear hN
 go_enter Tryz.func239, Tryz.ntmps239
 go_wp2
 go_loopw [6, 7, 12] (fun l c i wr => ∃ (k : Nat) (last : Int) (count : Nat), i = .int .i64 k ∧ k ≤ n ∧ l = .int .i64 last ∧ c = .int .i64 count ∧ count ≤ 1 ∧ Hid ((nfl tr (zs.take k) = [] ∧ last = 0 ∧ count = 0) ∨ (nfl tr (zs.take k) = [last] ∧ count = 1)) ∧ wr = w) (fun _ _ i _ => n - (intOf i).toNat)
 case atStart => exact ⟨0, 0, 0, rfl, Nat.zero_le _, rfl, rfl, Nat.zero_le _, .inl ⟨N0.out, rfl, rfl⟩, rfl⟩
 case round =>
  obtain ⟨k, last, count, rfl, hk, rfl, rfl, hct, HP, rfl⟩ := hrel
  have hk0 : (0 : Int) ≤ (k : Int) := by omega
  by_cases g1 : k < n
  ·have g1' : (k : Int) < (n : Int) := by omega
   have hlt : k < zs.length := by rw [HN.out]; exact g1
   obtain ⟨c, o, rfl, ZI⟩ : ∃ c o, sl = some ⟨c, o, none⟩ ∧ IntsAt wr c o zs := by
    rcases HZ.out with e | h
    ·rw [e] at hlt; simp at hlt
    ·exact h
   have hcell := ZI.2 k hlt
   have E := Lib.hid (NF.out k g1)
   have S1 := Lib.hid (ST.out k g1)
   have M1 := Lib.hid (MO.out (k + 1))
   clear ZI hlt NF ST MO HZ
   generalize zs.getD k 0 = z at *
   by_cases hy : 0 ≤ val tr z
   ·rw [decide_eq_true hy] at E
    rw [if_pos hy] at S1
    by_cases hq : count = 0
    ·subst hq
     have P1 := Lib.hid (show nfl tr (zs.take (k + 1)) = [z] by
      rcases HP.out with ⟨h1, _, _⟩ | ⟨_, h2⟩
      ·rw [S1.out, h1]; rfl
      ·omega)
     clear HP S1 M1 hct
     go_wp2_with (first | (go_at_call 240; refine E.out.mono ?_; rintro e wq ⟨rfl, rfl⟩))
     go_roundw
     case rel => exact ⟨k + 1, z, 1, by go_num, by omega, rfl, rfl, by omega, .inr ⟨P1.out, rfl⟩, trivial⟩
     case measure => simp [intOf]; omega
    ·obtain rfl : count = 1 := by omega
     have P1 := Lib.hid (show 2 ≤ (nfl tr zs).length by
      rcases HP.out with ⟨_, _, h2⟩ | ⟨h1, _⟩
      ·omega
      ·have := M1.out; rw [S1.out, h1] at this; simpa using this)
     clear HP S1 M1 hct
     go_wp2_with (first | (go_at_call 240; refine E.out.mono ?_; rintro e wq ⟨rfl, rfl⟩))
     go_ret2
     exact ⟨z, 2, rfl, .inr (.inr ⟨P1.out, rfl⟩), rfl⟩
   ·rw [decide_eq_false hy] at E
    rw [if_neg hy] at S1
    have P1 := Lib.hid (show (nfl tr (zs.take (k + 1)) = [] ∧ last = 0 ∧ count = 0) ∨ (nfl tr (zs.take (k + 1)) = [last] ∧ count = 1) by rw [S1.out]; exact HP.out)
    clear HP S1 M1
    go_wp2_with (first | (go_at_call 240; refine E.out.mono ?_; rintro e wq ⟨rfl, rfl⟩))
    go_roundw
    case rel => exact ⟨k + 1, last, count, by go_num, by omega, rfl, rfl, hct, P1, trivial⟩
    case measure => simp [intOf]; omega
  ·have g1' : ¬ (k : Int) < (n : Int) := by omega
   have P1 := Lib.hid (show Pas (nfl tr zs) last count by
    have := HP.out
    rw [NE.out k (by omega)] at this
    rcases this with h | h
    ·exact .inl h
    ·exact .inr (.inl h))
   clear HP NF ST MO
   go_wp2
   go_ret2
   exact ⟨last, count, rfl, P1, rfl⟩
noncomputable def dueL (tr : List Int) : Nat → List (List Int) → Int × Int
 | _, [] => (-1, 0)
 | k, l :: r => match unitOf tr l with
  | some z => ((k : Int), z)
  | none => dueL tr (k + 1) r
theorem dueL_step (tr : List Int) (css : List (List Int)) (k : Nat) (h : k < css.length) : dueL tr k (css.drop k) = match unitOf tr (css.getD k []) with
  | some z => ((k : Int), z)
  | none => dueL tr (k + 1) (css.drop (k + 1)) := by
 rw [List.drop_eq_getElem_cons h, dueL]
 simp [h]
theorem dueL_end (tr : List Int) (css : List (List Int)) (k : Nat) (h : css.length ≤ k) : dueL tr k (css.drop k) = (-1, 0) := by
 rw [List.drop_of_length_le h, dueL]
theorem valsZ_one (zs : List Int) : ∀ u ∈ valsZ zs, u.oneCell' = true := by
 intro u hu
 unfold valsZ at hu
 obtain ⟨p, _, rfl⟩ := List.mem_map.1 hu
 rfl
theorem valsZ_len1 (zs : List Int) : (valsZ zs).length = zs.length * 1 := by simp [valsZ]
theorem int_cells {w : World} {c o : Nat} {zs : List Int} (h : IntsAt w c o zs) : ∀ (j : Nat) (u : Value), (valsZ zs)[j]? = some u → w.cell? ((⟨c, o, none⟩ : Addr).add j) = some u := by
 intro j u hu
 have hl : j < zs.length := by
  have := (List.getElem?_eq_some_iff.1 hu).1
  simpa [valsZ] using this
 rw [at_add, h.2 j hl, ← hu]
 simp [valsZ, hl]
theorem app_none40 (w : World) (ty : TypeId) (base : Option Addr) (n cap : Nat) (hle : n ≤ cap) (p : Option Addr) (c : Nat) :
  (Builtin.append_ #[34, 34] ty #[.slice base n cap, .slice p 0 c]).run Tryz.prog w = .ok (.slice base n cap) w := by
 obtain ⟨i, h1, h2, h3, h4⟩ := info_parts info2'
 refine run_append_nothing w 34 34 ty 2 i Tryz.underlying34 h1 base n cap hle _ ?_
 cases p with
 | none => exact Src.ofNil _ Tryz.underlying34 c
 | some a => exact Src.ofSlice _ Tryz.underlying34 a 0 c [] (by simp) (fun j u h => by simp at h) (fun u h => by cases h)
abbrev VRw := Value × List Value
def VLie (w : World) (sl : Option Addr) (us : List Value) : Prop := us = [] ∨ ∃ c o, sl = some ⟨c, o, none⟩ ∧ c < w.heap.size ∧ ∀ (j : Nat) (u : Value), us[j]? = some u → w.cell? ((⟨c, o, none⟩ : Addr).add j) = some u
theorem VLie.below {w w' : World} {sl : Option Addr} {us : List Value} (h : VLie w sl us) (hb : Below w.heap.size w w') : VLie w' sl us := by
 rcases h with h | ⟨c, o, e, hl, hc⟩
 ·exact .inl h
 ·refine .inr ⟨c, o, e, Nat.lt_of_lt_of_le hl hb.size, fun j u hu => ?_⟩
  have := hc j u hu
  rw [at_add] at this ⊢
  exact (hb.cell (p := ⟨c, o + j, none⟩) hl).trans this
structure VRws (w : World) (sl : Option Addr) (rows : List VRw) : Prop where
 row : rows = [] ∨ ∃ c o, sl = some ⟨c, o, none⟩ ∧ c < w.heap.size ∧ ∀ i (h : i < rows.length), w.cell? ⟨c, o + i, none⟩ = some rows[i].1
 each : ∀ r ∈ rows, ∃ s k, r.1 = .slice s r.2.length k ∧ VLie w s r.2 ∧ ∀ u ∈ r.2, u.oneCell' = true
theorem VRws.below {w w' : World} {sl : Option Addr} {rows : List VRw} (h : VRws w sl rows) (hb : Below w.heap.size w w') : VRws w' sl rows := by
 refine ⟨?_, fun r hr => ?_⟩
 ·rcases h.row with h | ⟨c, o, e, hl, hc⟩
  ·exact .inl h
  ·exact .inr ⟨c, o, e, Nat.lt_of_lt_of_le hl hb.size, fun i hi => (hb.cell (p := ⟨c, o + i, none⟩) hl).trans (hc i hi)⟩
 ·obtain ⟨s, k, e, hv, h1⟩ := h.each r hr
  exact ⟨s, k, e, hv.below hb, h1⟩
theorem VRws.at {w : World} {sl : Option Addr} {rows : List VRw} (h : VRws w sl rows) {k : Nat} (hk : k < rows.length) : ∃ c o, sl = some ⟨c, o, none⟩ ∧ c < w.heap.size ∧ ∀ i (h : i < rows.length), w.cell? ⟨c, o + i, none⟩ = some rows[i].1 := by
 rcases h.row with h | h
 ·rw [h] at hk; simp at hk
 ·exact h
theorem app_noneV (w : World) (ty : TypeId) (base : Option Addr) (n cap : Nat) (hle : n ≤ cap) (p : Option Addr) (c : Nat) :
  (Builtin.append_ #[31, 31] ty #[.slice base n cap, .slice p 0 c]).run Tryz.prog w = .ok (.slice base n cap) w := by
 obtain ⟨i, h1, h2, h3, h4⟩ := info_parts info40
 refine run_append_nothing w 31 31 ty 34 i Tryz.underlying31 h1 base n cap hle _ ?_
 cases p with
 | none => exact Src.ofNil _ Tryz.underlying31 c
 | some a => exact Src.ofSlice _ Tryz.underlying31 a 0 c [] (by simp) (fun j u h => by simp at h) (fun u h => by cases h)
set_option maxRecDepth 100000 in
set_option maxHeartbeats 2000000 in
theorem growV_any (n : Nat) (w : World) (hn : n ≤ 1048576) :
  Calls Tryz.prog 220 #[.slice none 0 0, .int .i64 n] w fun e w' => ∃ v, e = .returned v ∧ w'.ownsRow w.heap.size 34 1 v 0 [] ∧ Below w.heap.size w w' := by
 obtain ⟨i3, hi3, hd0, hd1, hd2⟩ := info_parts info40
 by_cases h0 : n = 0
 ·subst h0
  go_enter Tryz.func220, Tryz.ntmps220
  go_wp2
  go_ret
  exact ⟨_, rfl, ⟨rfl, .inl ⟨rfl, rfl⟩⟩, Below.refl _ _⟩
 ·have hp : (0 : Int) < (n : Int) := by omega
  have hneg : ¬ (n : Int) < 0 := by omega
  have hrz := fun ty => Lib.run_append_nil_zeros (P := Tryz.prog) w 31 3 ty 34 i3 _ .i64 .i64 Tryz.underlying31 Tryz.underlying3 hi3 hd0 n (by omega) (by omega) (by omega) (by rw [hd2]; omega)
  have hG := grownCap_ge w n 0 34
  have hM := grownCap_le_maxLen w n 0 34 (by unfold maxLen; omega)
  have hM' := hM
  unfold maxLen at hM'
  generalize grownCap w n 0 34 = G at *
  have O : Hid ((w.drew.alloc (.cells (Builtin.zeroCells (Value.slice none 0 0).cells n ++ Builtin.zeroCells (Value.slice none 0 0).cells (G - n)) 34)).ownsRow w.heap.size 34 1 (.slice (some ⟨w.heap.size, 0, none⟩) 0 G) 0 []) := by
   refine ⟨rfl, .inr ⟨w.heap.size, G, _, rfl, Nat.le_refl _, new_at w.drew _, Nat.zero_le _, hM, ?_, rfl⟩⟩
   simp only [Array.size_append, size_zeroCells]
   rw [← Nat.add_mul, show (Value.slice none 0 0).cells.size = 1 from rfl]
   congr 1
   omega
  have BL : Hid (Below w.heap.size w (w.drew.alloc (.cells (Builtin.zeroCells (Value.slice none 0 0).cells n ++ Builtin.zeroCells (Value.slice none 0 0).cells (G - n)) 34))) := bA ((Below.refl _ _).drew) _
  generalize Builtin.zeroCells (Value.slice none 0 0).cells n ++ Builtin.zeroCells (Value.slice none 0 0).cells (G - n) = vs at *
  go_enter Tryz.func220, Tryz.ntmps220
  go_wp2_with (at_builtin; refine Lib.wpList_append_run _ rfl _ _ _ _ rfl _ _ rfl rfl _ _ (hrz _) ?_)
  go_ret
  exact ⟨_, rfl, O.out, BL.out⟩
def flatV (rows : List VRw) : List Value := rows.flatMap fun r => r.2
theorem flatV_step (rows : List VRw) (k : Nat) (h : k < rows.length) : flatV (rows.take (k + 1)) = flatV (rows.take k) ++ rows[k].2 := by
 unfold flatV
 rw [List.take_succ_eq_append_getElem h, List.flatMap_append]
 simp
theorem flatV_le (rows : List VRw) (k : Nat) : (flatV (rows.take k)).length ≤ (flatV rows).length := by
 have := congrArg (fun l => (flatV l).length) (List.take_append_drop k rows)
 simp only [flatV, List.flatMap_append, List.length_append] at this
 unfold flatV
 omega
set_option maxRecDepth 100000 in
set_option maxHeartbeats 4000000 in
theorem catV_any (sl : Option Addr) (cap : Nat) (rows : List VRw) (w : World) (hn : rows.length ≤ 1048576) (hT : (flatV rows).length ≤ 1048576) (hz : VRws w sl rows) :
  Calls Tryz.prog 191 #[.slice sl rows.length cap] w fun e w' => ∃ v, e = .returned v ∧ w'.ownsRow w.heap.size 34 1 v (flatV rows).length (flatV rows) ∧ Below w.heap.size w w' := by
 obtain ⟨i3, hi3, hd0, hd1, hd2⟩ := info_parts info40
 have HZ := Lib.hid hz
 have EG := Lib.hid (fun (W : World) (q : Nat) (h : q ≤ 1048576) => growV_any q W h)
 clear hz
 generalize hF : flatV rows = fl at *
 have HF := Lib.hid hF
 have FL := Lib.hid (fun k => flatV_le rows k)
 rw [hF] at FL
 clear hF
 generalize hN : rows.length = n at *
 have HN := Lib.hid hN
 clear hN
 go_enter Tryz.func191, Tryz.ntmps191
 go_wp2
 go_loopw [3, 11] (fun s i wr => ∃ (k q : Nat), i = .int .i64 k ∧ k ≤ n ∧ s = .int .i64 q ∧ q ≤ 1048576 ∧ Hid (q = (flatV (rows.take k)).length) ∧ wr = w) (fun _ i _ => n - (intOf i).toNat)
 case atStart => exact ⟨0, 0, rfl, Nat.zero_le _, rfl, Nat.zero_le _, rfl, rfl⟩
 case round =>
  obtain ⟨k, q, rfl, hk, rfl, hq, HQ, rfl⟩ := hrel
  have hk0 : (0 : Int) ≤ (k : Int) := by omega
  by_cases g1 : k < n
  ·have g1' : (k : Int) < (n : Int) := by omega
   have hlt : k < rows.length := by rw [HN.out]; exact g1
   obtain ⟨c, o, rfl, cl, hcs⟩ := HZ.out.at hlt
   have hc := hcs k hlt
   obtain ⟨s1, k1, v1, -⟩ := HZ.out.each rows[k] (List.getElem_mem hlt)
   rw [v1] at hc
   have QN := Lib.hid (show q + rows[k].2.length = (flatV (rows.take (k + 1))).length by rw [flatV_step rows k hlt, List.length_append, HQ.out])
   have hq2 : q + rows[k].2.length ≤ 1048576 := by rw [QN.out]; have := FL.out (k + 1); omega
   clear hcs v1
   generalize rows[k].2.length = r at *
   clear hlt
   go_wp2
   go_roundw
   case rel => exact ⟨k + 1, q + r, by go_num, by omega, by go_num, hq2, QN, trivial⟩
   case measure => simp [intOf]; omega
  ·have g1' : ¬ (k : Int) < (n : Int) := by omega
   have E := Lib.hid (EG.out wr q hq)
   clear EG HQ
   go_wp2_with fail
   refine E.out.mono ?_
   rintro e w1 ⟨v1, rfl, o1, b1⟩
   obtain ⟨C0, hC0⟩ : ∃ C0, C0 = wr.heap.size := ⟨_, rfl⟩
   have RD : Hid (∀ W, Below C0 w1 W → VRws W sl rows) := fun W hW => HZ.out.below (b1.trans (by rw [← hC0]; exact hW))
   have FB : Hid (∀ W, Below C0 w1 W → Below wr.heap.size wr W) := fun W hW => b1.trans (by rw [← hC0]; exact hW)
   have hs1 : C0 ≤ w1.heap.size := by rw [hC0]; exact b1.size
   have O1 : Hid (w1.ownsRow C0 34 1 v1 0 []) := by rw [hC0]; exact o1
   have OF : Hid (∀ (W : World) v xs, W.ownsRow C0 34 1 v fl.length xs → W.ownsRow wr.heap.size 34 1 v fl.length xs) := fun W v xs h => by rw [← hC0]; exact h
   clear o1 b1 E HZ hC0
   go_wp2
   go_loopw [6, 27] (fun v i wq => ∃ (k : Nat) (cu : List Value), i = .int .i64 k ∧ k ≤ n ∧ Hid (cu = flatV (rows.take k)) ∧ Hid (wq.ownsRow C0 34 1 v cu.length cu) ∧ Hid (Below C0 w1 wq)) (fun _ i _ => n - (intOf i).toNat)
   case atStart => exact ⟨0, [], rfl, Nat.zero_le _, rfl, O1, Below.refl _ _⟩
   case round =>
    obtain ⟨k, cu, rfl, hk, HC, OR, HB⟩ := hrel
    have hk0 : (0 : Int) ≤ (k : Int) := by omega
    by_cases g1 : k < n
    ·have g1' : (k : Int) < (n : Int) := by omega
     have hlt : k < rows.length := by rw [HN.out]; exact g1
     have RW := RD.out _ HB.out
     obtain ⟨c, o, rfl, cl, hcs⟩ := RW.at hlt
     have hc := hcs k hlt
     obtain ⟨s1, k1, e1, p1, ON⟩ := RW.each rows[k] (List.getElem_mem hlt)
     rw [e1] at hc
     have CS := Lib.hid (show cu ++ rows[k].2 = flatV (rows.take (k + 1)) by rw [HC.out]; exact (flatV_step rows k hlt).symm)
     have CL := Lib.hid (show (cu ++ rows[k].2).length ≤ 1048576 by rw [CS.out]; have := FL.out (k + 1); omega)
     obtain ⟨vsl, vcap, rfl⟩ := own_v OR.out
     have hlc : cu.length ≤ vcap := by
      rcases OR.out.2 with ⟨_, h0⟩ | ⟨g, cp, cur, hv, _, _, h5, _⟩
      ·rw [h0]; exact Nat.zero_le _
      ·cases hv; exact h5
     have hsw := HB.out.size
     clear hcs RW e1
     generalize rows[k].2 = r at *
     clear hlt
     by_cases hr : r = []
     ·subst hr
      have CSE : Hid (cu = flatV (rows.take (k + 1))) := by have := CS.out; rwa [List.append_nil] at this
      have ha := app_noneV wr 111 vsl cu.length vcap hlc s1 k1
      go_wp2_with (at_builtin; refine Lib.wpList_append_run _ rfl _ _ _ _ rfl _ _ rfl rfl _ _ ha ?_)
      go_roundw
      case rel => exact ⟨k + 1, cu, by go_num, by omega, CSE, OR, HB⟩
      case measure => simp [intOf]; omega
     ·obtain ⟨rc, ro, rfl, PA⟩ : ∃ c o, s1 = some ⟨c, o, none⟩ ∧ (∀ (j : Nat) (u : Value), r[j]? = some u → wr.cell? ((⟨c, o, none⟩ : Addr).add j) = some u) := by
       rcases p1 with h | h
       ·exact absurd h hr
       ·obtain ⟨c, o, e, _, h⟩ := h; exact ⟨c, o, e, h⟩
      have hrl : 0 < r.length := by
       cases r with
       | nil => exact absurd rfl hr
       | cons a t => simp
      have CL2 : cu.length + r.length ≤ 1048576 := by have := CL.out; rwa [List.length_append] at this
      have OL := Lib.hid (show ∀ j, (Value.slice vsl cu.length vcap).ownBlock = some j → C0 ≤ j from fun j hj => (OR.out.lt j hj).1)
      go_wp2_with (at_builtin; refine wpList_append_lies _ rfl (.tmp 31) (.tmp 32) 31 rfl C0 34 i3 (.slice none 0 0) 1 24 Tryz.underlying31 hi3 hd0 hd1 hd2 rfl (by decide) _ _ _ rfl OR.out ⟨rc, ro, none⟩ r.length k1 r rfl (Nat.mul_one _).symm PA ON hrl (by unfold maxLen; omega) (by omega) (by omega) wr.heap.size rfl ?_)
      intro g9 cap9 w9 own9 grow9 hg9 hlt9
      have O9 : Hid (w9.ownsRow C0 34 1 (.slice (some ⟨g9, 0, none⟩) (cu.length + r.length) cap9) (cu ++ r).length (cu ++ r)) := by
       rw [List.length_append]; exact own9
      have B9 := Lib.hid (HB.out.grown grow9 (by omega) (fun j hj => OL.out j hj))
      clear own9 grow9 hg9 hlt9 OR HB OL p1 PA
      go_wp2
      go_roundw
      case rel => exact ⟨k + 1, cu ++ r, by go_num, by omega, CS, O9, B9⟩
      case measure => simp [intOf]; omega
    ·have g1' : ¬ (k : Int) < (n : Int) := by omega
     have P := Lib.hid (show cu = fl by rw [HC.out, List.take_of_length_le (by rw [HN.out]; omega), HF.out])
     have O9 := OR.out
     rw [P.out] at O9
     have OO := Lib.hid (OF.out _ _ _ O9)
     have BB := Lib.hid (FB.out _ HB.out)
     clear O9 OR HC P
     go_wp2
     go_ret
     exact ⟨_, rfl, OO.out, BB.out⟩
theorem Cls.lie {w : World} {sl : Option Addr} {cs : List LCl} (h : Cls w sl cs) : VLie w sl (hdC cs) := by
 rcases h.row with h | ⟨c, o, e, hl, hc⟩
 ·exact .inl (by rw [h]; rfl)
 ·refine .inr ⟨c, o, e, hl, fun j u hu => ?_⟩
  have hj : j < cs.length := by
   have := (List.getElem?_eq_some_iff.1 hu).1
   rwa [hdC_len] at this
  rw [at_add, hc j hj, ← hu]
  simp [hdC, hj]
variable {d : Nat} {bt : TypeId} {fh : List Value}
noncomputable def resF (css : List (List Int)) : Nat → List Int → List Int × Int
 | 0, tr => (tr, -1)
 | n + 1, tr => if (dueL tr 0 css).2 = 0 then (tr, (dueL tr 0 css).1) else resF css n (tr ++ [(dueL tr 0 css).2])
theorem resF_end (css : List (List Int)) (n : Nat) (tr : List Int) (hn : 0 < n) (h : (dueL tr 0 css).2 = 0) : resF css n tr = (tr, (dueL tr 0 css).1) := by
 obtain ⟨m, rfl⟩ : ∃ m, n = m + 1 := ⟨n - 1, by omega⟩
 rw [resF, if_pos h]
theorem resF_step (css : List (List Int)) (n : Nat) (tr : List Int) (hn : 0 < n) (h : ¬ (dueL tr 0 css).2 = 0) : resF css n tr = resF css (n - 1) (tr ++ [(dueL tr 0 css).2]) := by
 obtain ⟨m, rfl⟩ : ∃ m, n = m + 1 := ⟨n - 1, by omega⟩
 rw [resF, if_neg h]
 rfl
theorem dueL_lit (tr : List Int) : ∀ (css : List (List Int)) (k : Nat), ¬ (dueL tr k css).2 = 0 → val tr (dueL tr k css).2 = 0 ∧ ∃ l ∈ css, (dueL tr k css).2 ∈ l
 | [], k, h => absurd rfl h
 | l :: r, k, h => by
  unfold dueL at h ⊢
  cases hu : unitOf tr l with
  | none =>
   simp only [hu] at h ⊢
   obtain ⟨h1, l', h2, h3⟩ := dueL_lit tr r (k + 1) h
   exact ⟨h1, l', List.mem_cons_of_mem _ h2, h3⟩
  | some z =>
   simp only [hu] at h ⊢
   unfold unitOf at hu
   match hx : nfl tr l with
   | [] => rw [hx] at hu; simp at hu; exact absurd hu.symm h
   | [a] =>
    rw [hx] at hu
    simp only at hu
    by_cases ha : val tr a = 0
    ·rw [if_pos ha] at hu
     have e : a = z := by simpa using hu
     subst e
     have hm : a ∈ nfl tr l := by rw [hx]; simp
     exact ⟨ha, l, by simp, (List.mem_filter.1 hm).1⟩
    ·rw [if_neg ha] at hu; simp at hu
   | a :: c :: s => rw [hx] at hu; simp at hu
theorem val_zero {tr : List Int} {z : Int} (h : val tr z = 0) : z ∉ tr ∧ -z ∉ tr := by
 rcases val_cases tr z with ⟨e, _⟩ | ⟨e, _⟩ | ⟨_, h1⟩
 ·omega
 ·omega
 ·exact h1
theorem SpTo.add {vars : Int} {tr : List Int} {z : Int} (h : SpTo vars tr tr.length) (ho : OkZ vars z) (h1 : z ∉ tr) (h2 : -z ∉ tr) : SpTo vars (tr ++ [z]) (tr ++ [z]).length := by
 have hg : ∀ i, i < tr.length → (tr ++ [z]).getD i 0 = tr.getD i 0 := fun i hi => by simp [List.getElem?_append_left hi]
 have hz : (tr ++ [z]).getD tr.length 0 = z := by simp
 intro i hi
 simp only [List.length_append, List.length_singleton] at hi
 by_cases e : i = tr.length
 ·subst e
  rw [hz]
  refine ⟨ho, fun j hj => ?_⟩
  rw [hg j hj, hz]
  refine ⟨fun e => h1 ?_, fun e => h2 ?_⟩
  ·rw [← e]; simp [hj]
  ·rw [← e]; simp [hj]
 ·rw [hg i (by omega)]
  refine ⟨(h i (by omega)).1, fun j hj => ?_⟩
  rw [hg j (by omega), hg i (by omega)]
  exact (h i (by omega)).2 j hj
theorem own_set {w : World} {B : Nat} {e : TypeId} {m : Nat} {v : Value} {n : Nat} {xs : List Value} (h : w.ownsRow B e m v n xs) {b : Nat} (hb : v.ownBlock ≠ some b) (i : Nat) (u : Value) : (w.setCell ⟨b, i, none⟩ u).ownsRow B e m v n xs := by
 refine ⟨h.1, ?_⟩
 rcases h.2 with h | ⟨g, cap, cur, hv, hg, hh, r⟩
 ·exact .inl h
 ·refine .inr ⟨g, cap, cur, hv, hg, (Below.heap_setCell _ _ _ _ ?_).trans hh, r⟩
  subst hv
  intro e
  exact hb (by simp [Value.ownBlock, e])
def BoxU (w : World) (b : Nat) : Prop := w.heap[b]? = some (.cells #[.slice none 0 0, .int .i64 0, .int .i64 0] 170)
theorem BoxU.facts {w : World} {b : Nat} (h : BoxU w b) : b < w.heap.size ∧ w.cell? ⟨b, 0, none⟩ = some (.slice none 0 0) ∧ w.cell? ⟨b, 1, none⟩ = some (.int .i64 0) ∧ w.cell? ⟨b, 2, none⟩ = some (.int .i64 0) ∧ w.frozen? ⟨b, 0, none⟩ = false ∧ w.frozen? ⟨b, 1, none⟩ = false ∧ w.frozen? ⟨b, 2, none⟩ = false := by
 unfold BoxU at h
 exact ⟨(Array.getElem?_eq_some_iff.1 h).1, by simp [World.cell?, h], by simp [World.cell?, h], by simp [World.cell?, h], by simp [World.frozen?, h], by simp [World.frozen?, h], by simp [World.frozen?, h]⟩
theorem BoxU.below {w w' : World} {b : Nat} (h : BoxU w b) (hb : Below w.heap.size w w') : BoxU w' b := (hb.block b h.facts.1).trans h
def set3 (w : World) (b : Nat) (v0 v1 v2 : Value) : World := ((w.setCell ⟨b, 0, none⟩ v0).setCell ⟨b, 1, none⟩ v1).setCell ⟨b, 2, none⟩ v2
theorem set3_below {W w : World} {n b : Nat} (h : Below n W w) (hb : n ≤ b) (v0 v1 v2 : Value) : Below n W (set3 w b v0 v1 v2) :=
 ((h.setCell (p := ⟨b, 0, none⟩) hb v0).setCell (p := ⟨b, 1, none⟩) hb v1).setCell (p := ⟨b, 2, none⟩) hb v2
theorem own_set3 {w : World} {B : Nat} {e : TypeId} {m : Nat} {v : Value} {n : Nat} {xs : List Value} (h : w.ownsRow B e m v n xs) {b : Nat} (hb : v.ownBlock ≠ some b) (v0 v1 v2 : Value) : (set3 w b v0 v1 v2).ownsRow B e m v n xs :=
 own_set (own_set (own_set h hb 0 v0) hb 1 v1) hb 2 v2
noncomputable def uRun (css dss : List (List Int)) (ts : List Int) : List Int × Int := resF (css ++ dss) (97 - ts.length) ts
abbrev UV (v : Value) (f c : Int) : Value := .agg #[v, .int .i64 f, .int .i64 c]
def UPost (w : World) (R : List Int × Int × Int) (e : Ending) (w' : World) : Prop := ∃ v, e = .returned (UV v R.2.1 R.2.2) ∧ w'.ownsRow w.heap.size 2 1 v R.1.length (valsZ R.1) ∧ Below w.heap.size w w'
theorem Ints.kept {w W : World} {sl : Option Addr} {zs : List Int} (h : Ints w sl zs) (hs : w.heap.size ≤ W.heap.size) (hk : ∀ k, k < w.heap.size → W.heap[k]? = w.heap[k]?) : Ints W sl zs := by
 rcases h with h | ⟨c, o, e, hl, hc⟩
 ·exact .inl h
 ·exact .inr ⟨c, o, e, by omega, fun i hi => (World.cell?_of_block (hk c hl)).trans (hc i hi)⟩
theorem ClIn.kept {w W : World} {r : LCl} (h : ClIn w r) (hs : w.heap.size ≤ W.heap.size) (hk : ∀ k, k < w.heap.size → W.heap[k]? = w.heap[k]?) : ClIn W r := by
 obtain ⟨sl, cap, e, hi, hl⟩ := h
 exact ⟨sl, cap, e, hi.kept hs hk, hl⟩
theorem own_kept {w W : World} {B : Nat} {e : TypeId} {m : Nat} {v : Value} {n : Nat} {xs : List Value} (h : w.ownsRow B e m v n xs) (hk : ∀ k, B ≤ k → k < w.heap.size → W.heap[k]? = w.heap[k]?) : W.ownsRow B e m v n xs := by
 refine ⟨h.1, ?_⟩
 rcases h.2 with h | ⟨g, cap, cur, hv, hg, hh, r⟩
 ·exact .inl h
 ·exact .inr ⟨g, cap, cur, hv, hg, (hk g hg (Array.getElem?_eq_some_iff.1 hh).1).trans hh, r⟩
noncomputable def sArr (V : Nat) (tr : List Int) : Array Value := ((List.range (2 * V + 1)).map fun k : Nat => Value.int .i64 (val tr ((k : Int) - (V : Int)))).toArray
def SVAt (w : World) (b V : Nat) (tr : List Int) : Prop := w.heap[b]? = some (.cells (sArr V tr) 2)
theorem sArr_at (V : Nat) (tr : List Int) (k : Nat) (h : k < 2 * V + 1) : (sArr V tr)[k]? = some (.int .i64 (val tr ((k : Int) - (V : Int)))) := by simp [sArr, h]
theorem SVAt.lt {w : World} {b V : Nat} {tr : List Int} (h : SVAt w b V tr) : b < w.heap.size := (Array.getElem?_eq_some_iff.1 h).1
theorem SVAt.cell {w : World} {b V : Nat} {tr : List Int} (h : SVAt w b V tr) (k : Nat) (hk : k < 2 * V + 1) : w.cell? ⟨b, k, none⟩ = some (.int .i64 (val tr ((k : Int) - (V : Int)))) := by
 have : w.cell? ⟨b, k, none⟩ = (sArr V tr)[k]? := by unfold SVAt at h; simp [World.cell?, h]
 rw [this, sArr_at V tr k hk]
theorem SVAt.frozen {w : World} {b V : Nat} {tr : List Int} (h : SVAt w b V tr) (k : Nat) : w.frozen? ⟨b, k, none⟩ = false := by unfold SVAt at h; simp [World.frozen?, h]
theorem SVAt.below {w w' : World} {b V : Nat} {tr : List Int} (h : SVAt w b V tr) (hb : Below w.heap.size w w') : SVAt w' b V tr := (hb.block b h.lt).trans h
theorem sArr_put (V : Nat) (tr : List Int) (z : Int) (i j : Nat) (hi : (i : Int) = z + V) (hj : (j : Int) = (V : Int) - z) (h1 : z ∉ tr) (h2 : -z ∉ tr) (h0 : z ≠ 0) : ((sArr V tr).setIfInBounds i (.int .i64 1)).setIfInBounds j (.int .i64 (-1)) = sArr V (tr ++ [z]) := by
 apply Array.ext
 ·simp [sArr]
 ·intro k a1 a2
  simp only [Array.size_setIfInBounds] at a1
  rw [Array.getElem_setIfInBounds (by simpa using a1)]
  have hs : (sArr V (tr ++ [z]))[k] = .int .i64 (val (tr ++ [z]) ((k : Int) - (V : Int))) := by simp [sArr]
  rw [hs]
  by_cases hjk : j = k
  ·subst hjk
   rw [if_pos rfl, show ((j : Int) - (V : Int)) = -z by omega, val_neg (by simp; exact ⟨h2, by omega⟩) (by simp)]
  ·rw [if_neg hjk, Array.getElem_setIfInBounds (by simpa using a1)]
   by_cases hik : i = k
   ·subst hik
    rw [if_pos rfl, show ((i : Int) - (V : Int)) = z by omega, val_yes (by simp)]
   ·rw [if_neg hik]
    have ht : (sArr V tr)[k]'(by simpa using a1) = .int .i64 (val tr ((k : Int) - (V : Int))) := by simp [sArr]
    rw [ht]
    have e1 : (((k : Int) - (V : Int)) ∈ tr ++ [z]) ↔ ((k : Int) - (V : Int)) ∈ tr := by
     simp only [List.mem_append, List.mem_singleton]
     exact ⟨fun h => by rcases h with h | h; exact h; omega, .inl⟩
    have e2 : (-((k : Int) - (V : Int)) ∈ tr ++ [z]) ↔ -((k : Int) - (V : Int)) ∈ tr := by
     simp only [List.mem_append, List.mem_singleton]
     exact ⟨fun h => by rcases h with h | h; exact h; omega, .inl⟩
    rw [val_iff e1 e2]
theorem SVAt.put {w : World} {b V : Nat} {tr : List Int} (h : SVAt w b V tr) (z : Int) (i j : Nat) (hi : (i : Int) = z + V) (hj : (j : Int) = (V : Int) - z) (h1 : z ∉ tr) (h2 : -z ∉ tr) (h0 : z ≠ 0) : SVAt ((w.setCell ⟨b, i, none⟩ (.int .i64 1)).setCell ⟨b, j, none⟩ (.int .i64 (-1))) b V (tr ++ [z]) := by
 have := heap_setCell_same _ b j _ 2 (.int .i64 (-1)) (heap_setCell_same w b i (sArr V tr) 2 (.int .i64 1) h)
 rw [sArr_put V tr z i j hi hj h1 h2 h0] at this
 exact this
theorem unit_true {tr zs : List Int} {z : Int} (hz : z ∈ zs) (h : val tr z = 1) : unitOf tr zs = none := by
 have hm : z ∈ nfl tr zs := List.mem_filter.2 ⟨hz, by simp [h]⟩
 unfold unitOf
 match hx : nfl tr zs with
 | [] => rw [hx] at hm; simp at hm
 | [a] =>
  rw [hx] at hm
  have : z = a := by simpa using hm
  subst this
  simp [h]
 | a :: c :: r => rfl
theorem unit_two {tr zs : List Int} (h : 2 ≤ (nfl tr zs).length) : unitOf tr zs = none := by
 unfold unitOf
 match hx : nfl tr zs with
 | [] => rw [hx] at h; simp at h
 | [a] => rw [hx] at h; simp at h
 | a :: c :: r => rfl
def uR (o : Option Int) : Int × Bool := match o with
 | none => (0, false)
 | some z => (z, z == 0)
set_option maxRecDepth 100000 in
set_option maxHeartbeats 2000000 in
theorem su_any (b V : Nat) (tr : List Int) (sl : Option Addr) (cap : Nat) (zs : List Int) (w : World) (hV : V ≤ 96) (hv : SVAt w b V tr) (hn : zs.length ≤ maxLen) (hw : ∀ z ∈ zs, OkZ (V : Int) z) (hz : Ints w sl zs) :
  Calls Tryz.prog 165 #[.slice (some ⟨b, 0, none⟩) (2 * V + 1) (2 * V + 1), .slice sl zs.length cap, .int .i64 (V : Int)] w fun e w' => e = .returned (.tuple #[.int .i64 (uR (unitOf tr zs)).1, .bool (uR (unitOf tr zs)).2]) ∧ w' = w := by
 unfold maxLen at hn
 have VC := Lib.hid (show ∀ z, OkZ (V : Int) z → ∃ i : Nat, (i : Int) = z + V ∧ i < 2 * V + 1 ∧ w.cell? ⟨b, i, none⟩ = some (.int .i64 (val tr z)) from fun z h => by
  have h2 := h.2.1
  have h3 := h.2.2
  refine ⟨(z + V).toNat, by omega, by omega, ?_⟩
  rw [hv.cell _ (by omega), show (((z + V).toNat : Nat) : Int) - (V : Int) = z by omega])
 have OK := Lib.hid (show ∀ k, k < zs.length → OkZ (V : Int) (zs.getD k 0) from fun k hk => hw _ (by simp [hk]))
 have UT := Lib.hid (show ∀ k, k < zs.length → val tr (zs.getD k 0) = 1 → unitOf tr zs = none from fun k hk h => unit_true (by simp [hk]) h)
 have ST := Lib.hid (fun k h => nfl_step tr zs k h)
 have MO := Lib.hid (fun k => nfl_more tr zs k)
 have U2 := Lib.hid (show 2 ≤ (nfl tr zs).length → unitOf tr zs = none from unit_two)
 have UE := Lib.hid (show ∀ k op, zs.length ≤ k → ((nfl tr (zs.take k) = [] ∧ op = 0) ∨ (nfl tr (zs.take k) = [op] ∧ op ≠ 0 ∧ val tr op = 0)) → unitOf tr zs = some op from fun k op hk h => by
  rw [List.take_of_length_le hk] at h
  unfold unitOf
  rcases h with ⟨h1, h2⟩ | ⟨h1, _, h3⟩
  ·rw [h1, h2]
  ·rw [h1]; simp [h3])
 have HZ := Lib.hid hz
 have N0 := Lib.hid (show nfl tr (zs.take 0) = [] by simp [nfl])
 have hlt := hv.lt
 clear hv hw hz
 generalize unitOf tr zs = U at *
 generalize hN : zs.length = n at *
 have HN := Lib.hid hN
 clear hN
 generalize hM : 2 * V + 1 = M at *
 go_enter Tryz.func165, Tryz.ntmps165
 go_wp2
 go_loopw [8, 9] (fun o i wr => ∃ (k : Nat) (op : Int), i = .int .i64 k ∧ k ≤ n ∧ o = .int .i64 op ∧ Hid ((nfl tr (zs.take k) = [] ∧ op = 0) ∨ (nfl tr (zs.take k) = [op] ∧ op ≠ 0 ∧ val tr op = 0)) ∧ wr = w) (fun _ i _ => n - (intOf i).toNat)
 case atStart => exact ⟨0, 0, rfl, Nat.zero_le _, rfl, .inl ⟨N0.out, rfl⟩, rfl⟩
 case round =>
  obtain ⟨k, op, rfl, hk, rfl, HP, rfl⟩ := hrel
  have hk0 : (0 : Int) ≤ (k : Int) := by omega
  by_cases g1 : k < n
  ·have g1' : (k : Int) < (n : Int) := by omega
   have hlt2 : k < zs.length := by rw [HN.out]; exact g1
   obtain ⟨c, o, rfl, ZI⟩ : ∃ c o, sl = some ⟨c, o, none⟩ ∧ IntsAt wr c o zs := by
    rcases HZ.out with e | h
    ·rw [e] at hlt2; simp at hlt2
    ·exact h
   have hcell := ZI.2 k hlt2
   obtain ⟨i, hi, hiM, hvc⟩ := VC.out _ (OK.out k g1)
   have okz := OK.out k g1
   have S1 := Lib.hid (ST.out k g1)
   have M1 := Lib.hid (MO.out (k + 1))
   have T1 := Lib.hid (UT.out k g1)
   clear ZI hlt2 ST MO HZ OK UT VC
   generalize zs.getD k 0 = z at *
   obtain ⟨oz1, oz2, oz3⟩ := okz
   have hi0 : (0 : Int) ≤ z + (V : Int) := by omega
   have hi1 : z + (V : Int) < (M : Int) := by omega
   have hi2 : z + (V : Int) ≤ 9223372036854775807 := by omega
   have hi3 : -9223372036854775808 ≤ z + (V : Int) := by omega
   have hin : (z + (V : Int)).toNat = i := by omega
   clear hi
   by_cases v1 : val tr z = 1
   ·have E := Lib.hid (T1.out v1)
    rw [v1] at hvc
    clear S1 M1 T1 HP v1 UE U2
    go_wp2
    go_ret2
    exact ⟨by rw [E.out]; rfl, rfl⟩
   ·by_cases v0 : val tr z = 0
    ·rw [if_pos (by omega)] at S1
     rw [v0] at hvc
     by_cases ho : op = 0
     ·subst ho
      have P1 := Lib.hid (show (nfl tr (zs.take (k + 1)) = [] ∧ z = 0) ∨ (nfl tr (zs.take (k + 1)) = [z] ∧ z ≠ 0 ∧ val tr z = 0) by
       rcases HP.out with ⟨h1, _⟩ | ⟨_, h2, _⟩
       ·rw [S1.out, h1]; exact .inr ⟨rfl, oz1, v0⟩
       ·exact absurd rfl h2)
      clear HP S1 M1 T1 v1 v0 UE U2
      go_wp2
      go_roundw
      case rel => exact ⟨k + 1, z, by go_num, by omega, rfl, P1, trivial⟩
      case measure => simp [intOf]; omega
     ·have E := Lib.hid (U2.out (by
       rcases HP.out with ⟨_, h2⟩ | ⟨h1, _, _⟩
       ·exact absurd h2 ho
       ·have := M1.out; rw [S1.out, h1] at this; simpa using this))
      have ho' : (op == 0) = false := by simpa using ho
      clear HP S1 M1 T1 v1 v0 UE U2
      go_wp2
      go_ret2
      exact ⟨by rw [E.out]; rfl, rfl⟩
    ·have vm : val tr z = -1 := by rcases val_cases tr z with ⟨e, _⟩ | ⟨e, _⟩ | ⟨e, _⟩ <;> omega
     rw [if_neg (by omega)] at S1
     rw [vm] at hvc
     have P1 := Lib.hid (show (nfl tr (zs.take (k + 1)) = [] ∧ op = 0) ∨ (nfl tr (zs.take (k + 1)) = [op] ∧ op ≠ 0 ∧ val tr op = 0) by rw [S1.out]; exact HP.out)
     clear HP S1 M1 T1 v1 v0 vm UE U2
     go_wp2
     go_roundw
     case rel => exact ⟨k + 1, op, by go_num, by omega, rfl, P1, trivial⟩
     case measure => simp [intOf]; omega
  ·have g1' : ¬ (k : Int) < (n : Int) := by omega
   have E := Lib.hid (UE.out k op (by omega) HP.out)
   clear HP ST MO UE U2 UT OK VC
   go_wp2
   go_ret2
   exact ⟨by rw [E.out]; rfl, rfl⟩
end Go.Proofs.YtnihhbfgbilimaaGreatDoor
