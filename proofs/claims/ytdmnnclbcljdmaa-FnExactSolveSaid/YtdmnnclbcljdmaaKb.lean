/-
  VALUES BY VARIABLE: an array of 97 numbers that stands for a trail; its methods of, put, take.
-/
import Derived.Test.YtdmnnclbcljdmaaKa
import Derived.Lib.SliceRun
namespace Go.Proofs.Ytdmnnclbcljdmaa
open Go.RowKit
set_option linter.unusedVariables false

/-- What a literal is by a trail: 1, -1 or 0. -/
noncomputable def val (tr : List Int) (z : Int) : Int := @ite _ (z ∈ tr) (Classical.propDecidable _) 1 (@ite _ (-z ∈ tr) (Classical.propDecidable _) (-1) 0)
theorem val_yes {tr : List Int} {z : Int} (h : z ∈ tr) : val tr z = 1 := by unfold val; rw [if_pos h]
theorem val_neg {tr : List Int} {z : Int} (h : z ∉ tr) (h2 : -z ∈ tr) : val tr z = -1 := by unfold val; rw [if_neg h, if_pos h2]
theorem val_no {tr : List Int} {z : Int} (h : z ∉ tr) (h2 : -z ∉ tr) : val tr z = 0 := by unfold val; rw [if_neg h, if_neg h2]
theorem val_cases (tr : List Int) (z : Int) : (val tr z = 1 ∧ z ∈ tr) ∨ (val tr z = -1 ∧ z ∉ tr ∧ -z ∈ tr) ∨ (val tr z = 0 ∧ z ∉ tr ∧ -z ∉ tr) := by
  by_cases h : z ∈ tr
  · exact .inl ⟨val_yes h, h⟩
  · by_cases h2 : -z ∈ tr
    · exact .inr (.inl ⟨val_neg h h2, h, h2⟩)
    · exact .inr (.inr ⟨val_no h h2, h, h2⟩)
theorem val_iff {a b : List Int} {x : Int} (e1 : x ∈ a ↔ x ∈ b) (e2 : -x ∈ a ↔ -x ∈ b) : val b x = val a x := by
  rcases val_cases a x with ⟨e, h1⟩ | ⟨e, h1, h2⟩ | ⟨e, h1, h2⟩
  · rw [e, val_yes (e1.1 h1)]
  · rw [e, val_neg (fun h => h1 (e1.2 h)) (e2.1 h2)]
  · rw [e, val_no (fun h => h1 (e1.2 h)) (fun h => h2 (e2.2 h))]
/-- No literal of it beside its minus. -/
def Cons (tr : List Int) : Prop := ∀ z ∈ tr, -z ∉ tr
theorem val_minus {tr : List Int} (h : Cons tr) (z : Int) : -val tr (-z) = val tr z := by
  rcases val_cases tr z with ⟨e, h1⟩ | ⟨e, h1, h2⟩ | ⟨e, h1, h2⟩
  · rw [e, val_neg (h z h1) (by simpa using h1)]; rfl
  · rw [e, val_yes h2]
  · rw [e, val_no h2 (by simpa using h1)]; rfl

/-- The cells of the values of a trail. -/
noncomputable def vL (tr : List Int) : List Value := (List.range 97).map fun k : Nat => Value.int .i64 (val tr (k : Int))
/-- Block b: six fields, then the values of a trail. -/
def VAt (fh : List Value) (w : World) (b : Nat) (tr : List Int) : Prop := fh.length = 6 ∧ w.heap[b]? = some (.cells (fh ++ vL tr).toArray 63)
theorem vL_len (tr : List Int) : (vL tr).length = 97 := by simp [vL]
theorem vL_at (tr : List Int) (k : Nat) (h : k < 97) : (vL tr)[k]? = some (.int .i64 (val tr (k : Int))) := by simp [vL, h]
variable {fh : List Value}
theorem VAt.lt {w : World} {b : Nat} {tr : List Int} (h : VAt fh w b tr) : b < w.heap.size := (Array.getElem?_eq_some_iff.1 h.2).1
theorem VAt.cell {w : World} {b : Nat} {tr : List Int} (h : VAt fh w b tr) (k : Nat) (hk : k < 97) : w.cell? ⟨b, 6 + k, none⟩ = some (.int .i64 (val tr (k : Int))) := by
  have : w.cell? ⟨b, 6 + k, none⟩ = (fh ++ vL tr)[6 + k]? := by simp [World.cell?, h.2]
  rw [this, List.getElem?_append_right (by rw [h.1]; omega), h.1, Nat.add_sub_cancel_left, vL_at tr k hk]
theorem VAt.frozen {w : World} {b : Nat} {tr : List Int} (h : VAt fh w b tr) (k : Nat) : w.frozen? ⟨b, k, none⟩ = false := by simp [World.frozen?, h.2]
theorem VAt.kept {w w' : World} {b : Nat} {tr : List Int} (h : VAt fh w b tr) (e : w'.heap[b]? = w.heap[b]?) : VAt fh w' b tr := ⟨h.1, e.trans h.2⟩
theorem VAt.below {w w' : World} {b : Nat} {tr : List Int} (h : VAt fh w b tr) (hb : Below w.heap.size w w') : VAt fh w' b tr := ⟨h.1, (hb.block b h.lt).trans h.2⟩
/-- A literal more. -/
theorem vL_put (tr : List Int) (z : Int) (i : Nat) (u : Int) (h1 : z ∉ tr) (h2 : -z ∉ tr) (hi : (z = (i : Int) ∧ u = 1) ∨ (z = -(i : Int) ∧ u = -1 ∧ 0 < i)) : (vL tr).set i (.int .i64 u) = vL (tr ++ [z]) := by
  apply List.ext_getElem
  · simp [vL]
  · intro k a1 a2
    rw [List.getElem_set]
    simp only [vL, List.getElem_map, List.getElem_range]
    by_cases hk : i = k
    · subst hk
      rw [if_pos rfl]
      rcases hi with ⟨rfl, rfl⟩ | ⟨rfl, rfl, h0⟩
      · rw [val_yes (by simp)]
      · rw [val_neg (by simp at h2 ⊢; exact ⟨h2, by omega⟩) (by simp)]
    · rw [if_neg hk]
      have e1 : ((k : Int) ∈ tr ++ [z]) ↔ (k : Int) ∈ tr := by
        simp only [List.mem_append, List.mem_singleton]
        exact ⟨fun h => by rcases h with h | h; exact h; rcases hi with ⟨rfl, _⟩ | ⟨rfl, _, _⟩ <;> omega, .inl⟩
      have e2 : (-(k : Int) ∈ tr ++ [z]) ↔ -(k : Int) ∈ tr := by
        simp only [List.mem_append, List.mem_singleton]
        exact ⟨fun h => by rcases h with h | h; exact h; rcases hi with ⟨rfl, _⟩ | ⟨rfl, _, _⟩ <;> omega, .inl⟩
      rw [val_iff e1 e2]
theorem VAt.put {w : World} {b : Nat} {tr : List Int} (h : VAt fh w b tr) (z : Int) (i : Nat) (u : Int) (h1 : z ∉ tr) (h2 : -z ∉ tr) (hi : (z = (i : Int) ∧ u = 1) ∨ (z = -(i : Int) ∧ u = -1 ∧ 0 < i)) : VAt fh (w.setCell ⟨b, 6 + i, none⟩ (.int .i64 u)) b (tr ++ [z]) := by
  have := heap_setCell_same w b (6 + i) _ 63 (.int .i64 u) h.2
  rw [List.setIfInBounds_toArray, List.set_append_right _ _ (by rw [h.1]; omega), h.1, Nat.add_sub_cancel_left, vL_put tr z i u h1 h2 hi] at this
  exact ⟨h.1, this⟩
/-- Only block b is turned, new ones come. -/
structure Only (b : Nat) (w w' : World) : Prop where
  os : w'.os = w.os
  tape : w'.tape = w.tape
  output : w'.output = w.output
  size : w.heap.size ≤ w'.heap.size
  block : ∀ k, k < w.heap.size → k ≠ b → w'.heap[k]? = w.heap[k]?
theorem Only.refl (b : Nat) (w : World) : Only b w w := ⟨rfl, rfl, rfl, Nat.le_refl _, fun _ _ _ => rfl⟩
theorem Only.trans {b : Nat} {u v w : World} (h : Only b u v) (k : Only b v w) : Only b u w :=
  ⟨k.os.trans h.os, k.tape.trans h.tape, k.output.trans h.output, Nat.le_trans h.size k.size, fun j hj hb => (k.block j (Nat.lt_of_lt_of_le hj h.size) hb).trans (h.block j hj hb)⟩
theorem Only.drew {b : Nat} {u v : World} (h : Only b u v) : Only b u v.drew := ⟨h.os, h.tape, h.output, h.size, h.block⟩
theorem Only.setCell {b : Nat} {u v : World} (h : Only b u v) (o : Nat) (x : Value) : Only b u (v.setCell ⟨b, o, none⟩ x) :=
  ⟨h.os, h.tape, h.output, by simpa using h.size, fun k hk hb => (Below.heap_setCell _ _ _ _ hb).trans (h.block k hk hb)⟩
theorem Only.grown {b : Nat} {u v w : World} {row : Option Nat} (h : Only b u v) (hg : v.grownBy w row) (hr : ∀ g, row = some g → u.heap.size ≤ g) : Only b u w :=
  ⟨hg.os.trans h.os, hg.tape.trans h.tape, hg.output.trans h.output, Nat.le_trans h.size hg.size, fun k hk hb => (hg.block k (Nat.lt_of_lt_of_le hk h.size) (fun e => by have := hr k e.symm; omega)).trans (h.block k hk hb)⟩
theorem Only.alloc {b : Nat} {u v : World} (h : Only b u v) (o : Obj) : Only b u (v.alloc o) := h.grown (World.grownBy_alloc v o none) (fun g hg => by cases hg)
theorem Only.of_below {b : Nat} {u v : World} (h : Below u.heap.size u v) : Only b u v := ⟨h.os, h.tape, h.output, h.size, fun k hk _ => h.block k hk⟩
theorem Only.below {b : Nat} {u v w : World} (h : Below u.heap.size u v) (hb : u.heap.size ≤ b) (k : Only b v w) : Below u.heap.size u w :=
  ⟨k.os.trans h.os, k.tape.trans h.tape, k.output.trans h.output, Nat.le_trans h.size k.size, fun j hj => (k.block j (Nat.lt_of_lt_of_le hj h.size) (by omega)).trans (h.block j hj)⟩
theorem Only.cell {b : Nat} {w w' : World} (h : Only b w w') {c o : Nat} (hc : c < w.heap.size) (hb : c ≠ b) : w'.cell? ⟨c, o, none⟩ = w.cell? ⟨c, o, none⟩ := World.cell?_of_block (w := w) (h.block c hc hb)
theorem Cons.put {tr : List Int} {z : Int} (h : Cons tr) (h1 : z ∉ tr) (h2 : -z ∉ tr) (h0 : z ≠ 0) : Cons (tr ++ [z]) := by
  intro y hy hn
  simp only [List.mem_append, List.mem_singleton] at hy hn
  rcases hy with hy | rfl
  · rcases hn with hn | hn
    · exact h y hy hn
    · exact h2 (by rw [← hn]; simpa using hy)
  · rcases hn with hn | hn
    · exact h2 hn
    · omega

set_option maxRecDepth 100000 in
set_option maxHeartbeats 1000000 in
/-- values.of. -/
theorem of_any (b : Nat) (tr : List Int) (z : Int) (w : World) (hv : VAt fh w b tr) (hc : Cons tr) (h1 : -96 ≤ z) (h2 : z ≤ 96) :
    Calls Try.prog 74 #[.pointer (some ⟨b, 6, none⟩), .int .i64 z] w fun e w' => e = .returned (.int .i64 (val tr z)) ∧ w' = w := by
  have hlt := hv.lt
  by_cases h : z < 0
  · have e : Hid (-val tr (-z) = val tr z) := val_minus hc z
    obtain ⟨k, hk⟩ : ∃ k : Nat, -z = (k : Int) := ⟨(-z).toNat, by omega⟩
    have hcell := hv.cell k (by omega)
    have hw : (-z).toNat = k := by omega
    have hk4 : -z < 97 := by omega
    have hk5 : 0 ≤ -z := by omega
    have hk2 : (k : Int) < 97 := by omega
    have hk3 : k < 97 := by omega
    have e2 : Hid (wrap64 (-val tr (k : Int)) = val tr z) := by
      show wrap64 (-val tr (k : Int)) = val tr z
      rw [← hk, wrap_in, e.out]
      rcases val_cases tr (-z) with ⟨g, _⟩ | ⟨g, _⟩ | ⟨g, _⟩ <;> rw [g] <;> omega
    clear hv hk e
    generalize val tr (k : Int) = y at *
    go_enter Try.func74, Try.ntmps74
    go_wp2
    go_ret
    exact ⟨by rw [e2.out]; rfl, rfl⟩
  · obtain ⟨k, rfl⟩ : ∃ k : Nat, z = (k : Int) := ⟨z.toNat, by omega⟩
    have hcell := hv.cell k (by omega)
    have hk2 : (k : Int) < 97 := by omega
    have hk3 : k < 97 := by omega
    clear hv
    generalize val tr (k : Int) = y at *
    go_enter Try.func74, Try.ntmps74
    go_wp2
    go_ret
    exact ⟨rfl, rfl⟩

set_option maxRecDepth 100000 in
set_option maxHeartbeats 1000000 in
/-- values.put. -/
theorem put_any (b : Nat) (tr : List Int) (z : Int) (w : World) (hv : VAt fh w b tr) (h1 : -96 ≤ z) (h2 : z ≤ 96) (h0 : z ≠ 0) (n1 : z ∉ tr) (n2 : -z ∉ tr) :
    Calls Try.prog 82 #[.pointer (some ⟨b, 6, none⟩), .int .i64 z] w fun e w' => e = .returned (.tuple #[]) ∧ VAt fh w' b (tr ++ [z]) ∧ ∃ i v, w' = w.setCell ⟨b, i, none⟩ v := by
  have hlt := hv.lt
  by_cases h : z < 0
  · obtain ⟨k, hk⟩ : ∃ k : Nat, -z = (k : Int) := ⟨(-z).toNat, by omega⟩
    have hcell := hv.cell k (by omega)
    have hfr := hv.frozen (6 + k)
    have hw : (-z).toNat = k := by omega
    have hk4 : -z < 97 := by omega
    have hk5 : 0 ≤ -z := by omega
    have hk2 : (k : Int) < 97 := by omega
    have hk3 : k < 97 := by omega
    have P := Lib.hid (hv.put z k (-1) n1 n2 (.inr ⟨by omega, rfl, by omega⟩))
    clear hv hk n1 n2
    go_enter Try.func82, Try.ntmps82
    go_wp2
    refine bodyPost_ret (results_none rfl _ _ _) rfl ?_
    exact ⟨rfl, P.out, _, _, rfl⟩
  · obtain ⟨k, rfl⟩ : ∃ k : Nat, z = (k : Int) := ⟨z.toNat, by omega⟩
    have hcell := hv.cell k (by omega)
    have hfr := hv.frozen (6 + k)
    have hk2 : (k : Int) < 97 := by omega
    have hk3 : k < 97 := by omega
    have P := Lib.hid (hv.put k k 1 n1 n2 (.inl ⟨rfl, rfl⟩))
    clear hv n1 n2
    go_enter Try.func82, Try.ntmps82
    go_wp2
    go_end0
    exact ⟨rfl, P.out, _, _, rfl⟩

theorem SpTo.pre {vars : Int} {zs : List Int} {k : Nat} (h : SpTo vars zs k) (hk : k ≤ zs.length) : ∀ z ∈ zs.take k, OkZ vars z ∧ -z ∉ zs.take k := by
  intro z hz
  obtain ⟨i, hi, rfl⟩ := List.getElem_of_mem hz
  have hi' : i < k := by simp at hi; omega
  have hg : (zs.take k)[i] = zs.getD i 0 := by simp [show i < zs.length by omega]
  refine ⟨by rw [hg]; exact (h i hi').1, fun hn => ?_⟩
  obtain ⟨j, hj, e⟩ := List.getElem_of_mem hn
  have hj' : j < k := by simp at hj; omega
  have hg2 : (zs.take k)[j] = zs.getD j 0 := by simp [show j < zs.length by omega]
  rw [hg, hg2] at e
  have n0 := (h i hi').1.1
  rcases Nat.lt_trichotomy i j with g | g | g
  · exact ((h j hj').2 i g).2 (by omega)
  · subst g; omega
  · exact ((h i hi').2 j g).2 e
theorem SpTo.cons {vars : Int} {zs : List Int} {k : Nat} (h : SpTo vars zs k) (hk : k ≤ zs.length) : Cons (zs.take k) := fun z hz => (h.pre hk z hz).2
theorem apart_iff (zs : List Int) (k : Nat) (hk : k < zs.length) : Apart zs k k ↔ zs.getD k 0 ∉ zs.take k ∧ -zs.getD k 0 ∉ zs.take k := by
  have hg : ∀ j, j < k → ∀ h : j < (zs.take k).length, (zs.take k)[j] = zs.getD j 0 := fun j hj h => by simp [show j < zs.length by omega]
  constructor
  · intro h
    refine ⟨fun hm => ?_, fun hm => ?_⟩
    · obtain ⟨j, hj, e⟩ := List.getElem_of_mem hm
      have hj' : j < k := by simp at hj; omega
      rw [hg j hj' hj] at e
      exact (h j hj').1 e
    · obtain ⟨j, hj, e⟩ := List.getElem_of_mem hm
      have hj' : j < k := by simp at hj; omega
      rw [hg j hj' hj] at e
      exact (h j hj').2 e
  · rintro ⟨h1, h2⟩ j hj
    have hl : j < (zs.take k).length := by simp; omega
    refine ⟨fun e => h1 ?_, fun e => h2 ?_⟩
    · rw [← e, ← hg j hj hl]; exact List.getElem_mem _
    · rw [← e, ← hg j hj hl]; exact List.getElem_mem _
theorem take_one (zs : List Int) (k : Nat) (hk : k < zs.length) : zs.take (k + 1) = zs.take k ++ [zs.getD k 0] := by
  rw [List.take_succ_eq_append_getElem hk]; simp [hk]

/-- Six fields and ninety-seven cells. -/
def VBlk (fh : List Value) (w : World) (b : Nat) : Prop := fh.length = 6 ∧ ∃ us : List Value, us.length = 97 ∧ w.heap[b]? = some (.cells (fh ++ us).toArray 63)
theorem VAt.blk {w : World} {b : Nat} {tr : List Int} (h : VAt fh w b tr) : VBlk fh w b := ⟨h.1, _, vL_len tr, h.2⟩
theorem zero2 : ∀ w, (zeroValue 2).run Try.prog w = .ok (.int .i64 0) w := Try.zeroValue2
/-- clear: the array of no literal. -/
theorem clear_arr (b : Nat) (w : World) (h : VBlk fh w b) (ty : TypeId) :
    ∃ w', (Builtin.clear_ #[28] ty #[.slice (some ⟨b, 6, none⟩) 97 97]).run Try.prog w = .ok (.tuple #[]) w' ∧ VAt fh w' b [] ∧ Only b w w' ∧ w'.heap.size = w.heap.size := by
  obtain ⟨h6, vs, hs, hb⟩ := h
  have hc : ∀ j, j < 97 → (w.cell? ⟨b, 6 + j, none⟩).isSome = true := fun j hj => by
    have e : w.cell? ⟨b, 6 + j, none⟩ = (fh ++ vs)[6 + j]? := by simp [World.cell?, hb]
    rw [e, List.getElem?_eq_getElem (by rw [List.length_append]; omega)]; rfl
  have hf : ∀ j, j < 97 → w.frozen? ⟨b, 6 + j, none⟩ = false := fun j hj => by simp [World.frozen?, hb]
  refine ⟨_, Lib.run_clear_slice w 28 2 ty (.int .i64 0) Try.underlying28 zero2 rfl rfl b 6 97 97 (by omega) hc hf, ?_⟩
  have key : ∀ (ws : List Value) (o : Nat) (W : World) (us : Array Value), W.heap[b]? = some (.cells us 63) → o + ws.length = us.size → ∃ us', (W.setCells b o ws).heap[b]? = some (.cells us' 63) ∧ us'.size = us.size ∧ (∀ k, k < o → us'[k]? = us[k]?) ∧ (∀ k, k < ws.length → us'[o + k]? = ws[k]?) ∧ Only b W (W.setCells b o ws) ∧ (W.setCells b o ws).heap.size = W.heap.size := by
    intro ws
    induction ws with
    | nil => intro o W us h1 h2; exact ⟨us, h1, rfl, fun _ _ => rfl, fun k hk => by simp at hk, Only.refl _ _, rfl⟩
    | cons v r ih =>
      intro o W us h1 h2
      simp only [List.length_cons] at h2
      obtain ⟨us', g1, g2, g3, g4, g5, g6⟩ := ih (o + 1) (W.setCell ⟨b, o, none⟩ v) (us.setIfInBounds o v) (heap_setCell_same W b o us 63 v h1) (by simp; omega)
      refine ⟨us', g1, by rw [g2]; simp, fun k hk => ?_, fun k hk => ?_, ((Only.refl b W).setCell o v).trans g5, by rw [World.setCells, g6]; simp⟩
      · rw [g3 k (by omega), Array.getElem?_setIfInBounds_ne (by omega)]
      · cases k with
        | zero => rw [Nat.add_zero, g3 o (by omega), Array.getElem?_setIfInBounds_self_of_lt (by omega)]; rfl
        | succ k =>
          have := g4 k (by simpa using hk)
          rw [show o + (k + 1) = o + 1 + k by omega, this]; simp
  obtain ⟨us', g1, g2, g3, g4, g5, g6⟩ := key (List.replicate 97 (.int .i64 0)) 6 w (fh ++ vs).toArray hb (by simp [hs, h6])
  have hsz : us'.size = 103 := by rw [g2]; simp [hs, h6]
  refine ⟨⟨h6, ?_⟩, g5, g6⟩
  rw [g1]
  suffices hu : us' = (fh ++ vL []).toArray by rw [hu]
  apply Array.ext
  · rw [hsz]; simp [h6, vL_len]
  · intro i b1 b2
    apply Option.some.inj
    rw [← Array.getElem?_eq_getElem b1, ← Array.getElem?_eq_getElem b2, show (fh ++ vL []).toArray[i]? = (fh ++ vL [])[i]? by simp]
    by_cases hi : i < 6
    · rw [g3 i hi, show (fh ++ vs).toArray[i]? = (fh ++ vs)[i]? by simp, List.getElem?_append_left (by omega), List.getElem?_append_left (by omega)]
    · obtain ⟨k, rfl⟩ : ∃ k, i = 6 + k := ⟨i - 6, by omega⟩
      have hk : k < 97 := by omega
      rw [g4 k (by simpa using hk), List.getElem?_append_right (by omega), h6, Nat.add_sub_cancel_left, vL_at [] k hk, val_no (by simp) (by simp), List.getElem?_replicate, if_pos hk]

set_option maxRecDepth 100000 in
set_option maxHeartbeats 4000000 in
/-- values.take. -/
theorem take_any (b : Nat) (vars : Int) (sl : Option Addr) (cap : Nat) (zs : List Int) (w : World) (hb : VBlk fh w b) (hv0 : 0 ≤ vars) (hv1 : vars ≤ 96) (hn : zs.length ≤ maxLen) (hz : zs = [] ∨ ∃ c o, sl = some ⟨c, o, none⟩ ∧ IntsAt w c o zs ∧ c ≠ b) :
    Calls Try.prog 71 #[.pointer (some ⟨b, 6, none⟩), .slice sl zs.length cap, .int .i64 vars] w fun e w' => e = .returned (.bool (B (SpTo vars zs zs.length))) ∧ (SpTo vars zs zs.length → VAt fh w' b zs) ∧ Only b w w' ∧ w'.heap.size = w.heap.size := by
  unfold maxLen at hn
  obtain ⟨w0, hrun, hva, hbl, hsz⟩ := clear_arr b w hb 0
  have hlt := hva.lt
  have hlt0 : b < w.heap.size := by omega
  have HV := Lib.hid hva
  have HB := Lib.hid hbl
  have HS := Lib.hid hsz
  have hnv : wrap64 (-vars) = -vars := wrap_in _ ⟨by omega, by omega⟩
  have ZC : Hid (∀ W, Only b w W → ∀ k, k < zs.length → ∃ c o, sl = some ⟨c, o, none⟩ ∧ W.cell? ⟨c, o + k, none⟩ = some (.int .i64 (zs.getD k 0))) := fun W hW k hk => by
    rcases hz with e | ⟨c, o, e, hi, hc⟩
    · rw [e] at hk; simp at hk
    · exact ⟨c, o, e, (hW.cell hi.1 hc).trans (hi.2 k hk)⟩
  have PUT := Lib.hid (show ∀ W k, k < zs.length → VAt fh W b (zs.take k) → OkZ vars (zs.getD k 0) → Apart zs k k → Calls Try.prog 82 #[.pointer (some ⟨b, 6, none⟩), .int .i64 (zs.getD k 0)] W fun e w' => e = .returned (.tuple #[]) ∧ VAt fh w' b (zs.take (k + 1)) ∧ ∃ i v, w' = W.setCell ⟨b, i, none⟩ v from fun W k hk h1 h2 h3 => by
    rw [take_one zs k hk]
    have := (apart_iff zs k hk).1 h3
    exact put_any b (zs.take k) (zs.getD k 0) W h1 (by have := h2.2.2; omega) (by have := h2.2.1; omega) h2.1 this.1 this.2)
  have OF := Lib.hid (show ∀ W k, k < zs.length → VAt fh W b (zs.take k) → SpTo vars zs k → OkZ vars (zs.getD k 0) → Calls Try.prog 74 #[.pointer (some ⟨b, 6, none⟩), .int .i64 (zs.getD k 0)] W fun e w' => e = .returned (.int .i64 (val (zs.take k) (zs.getD k 0))) ∧ w' = W from fun W k hk h1 h2 h3 => of_any b (zs.take k) (zs.getD k 0) W h1 (h2.cons (by omega)) (by have := h3.2.2; omega) (by have := h3.2.1; omega))
  have NN := Lib.hid (show ∀ i, i < zs.length → ¬ (OkZ vars (zs.getD i 0) ∧ Apart zs i i) → ¬ SpTo vars zs zs.length from fun i hi h g => h (g i hi))
  have V0 := Lib.hid (show ∀ W, VAt fh W b [] → VAt fh W b (zs.take 0) from fun W h => by simpa using h)
  have VE := Lib.hid (show ∀ W k, zs.length ≤ k → VAt fh W b (zs.take k) → VAt fh W b zs from fun W k hk h => by rwa [List.take_of_length_le hk] at h)
  have AV := Lib.hid (show ∀ k, k < zs.length → (val (zs.take k) (zs.getD k 0) = 0 → Apart zs k k) ∧ (¬ val (zs.take k) (zs.getD k 0) = 0 → ¬ Apart zs k k) from fun k hk => by
    rw [apart_iff zs k hk]
    rcases val_cases (zs.take k) (zs.getD k 0) with ⟨e, h1⟩ | ⟨e, h1, h2⟩ | ⟨e, h1, h2⟩
    · exact ⟨fun h => by omega, fun _ g => g.1 h1⟩
    · exact ⟨fun h => by omega, fun _ g => g.2 h2⟩
    · exact ⟨fun _ => ⟨h1, h2⟩, fun h => absurd e h⟩)
  clear hz hva hbl hsz hb
  generalize hQ : SpTo vars zs zs.length = Q at *
  have HQ := Lib.hid hQ
  clear hQ
  generalize hN : zs.length = n at *
  have HN := Lib.hid hN
  clear hN
  go_enter Try.func71, Try.ntmps71
  go_wp2
  go_loopw [14] (fun i wr => ∃ k : Nat, i = .int .i64 k ∧ k ≤ n ∧ Hid (SpTo vars zs k) ∧ Hid (VAt fh wr b (zs.take k)) ∧ Hid (Only b w wr) ∧ Hid (wr.heap.size = w.heap.size)) (fun i _ => n - (intOf i).toNat)
  case atStart => exact ⟨0, rfl, Nat.zero_le _, SpTo.zero _ _, V0.out _ HV.out, HB.out, HS.out⟩
  case round =>
    obtain ⟨k, rfl, hk, H1, H2, H3, H4⟩ := hrel
    have hk0 : (0 : Int) ≤ (k : Int) := by omega
    have hltr : b < wr.heap.size := H2.out.lt
    by_cases h1 : k < n
    · have h1' : (k : Int) < (n : Int) := by omega
      obtain ⟨c, o, rfl, hc⟩ := ZC.out wr H3.out k h1
      have NO := Lib.hid (NN.out k h1)
      by_cases a1 : zs.getD k 0 = 0
      · have HF := Lib.hid (NO.out (fun g => g.1.1 a1))
        rw [a1] at hc
        clear NO NN AV OF PUT ZC
        go_wp2
        go_ret
        exact ⟨by rw [B_no HF.out]; rfl, fun h => absurd h HF.out, H3.out, H4.out⟩
      have a1' : (zs.getD k 0 == 0) = false := by simpa using a1
      by_cases a2 : zs.getD k 0 < -vars
      · have HF := Lib.hid (NO.out (fun g => by have := g.1.2.2; omega))
        clear NO NN AV OF PUT ZC
        generalize zs.getD k 0 = z at *
        go_wp2
        go_ret
        exact ⟨by rw [B_no HF.out]; rfl, fun h => absurd h HF.out, H3.out, H4.out⟩
      by_cases a3 : vars < zs.getD k 0
      · have HF := Lib.hid (NO.out (fun g => by have := g.1.2.1; omega))
        clear NO NN AV OF PUT ZC
        generalize zs.getD k 0 = z at *
        go_wp2
        go_ret
        exact ⟨by rw [B_no HF.out]; rfl, fun h => absurd h HF.out, H3.out, H4.out⟩
      have OK := Lib.hid (show OkZ vars (zs.getD k 0) from ⟨a1, by omega, by omega⟩)
      have CO := Lib.hid (OF.out wr k h1 H2.out H1.out OK.out)
      by_cases a4 : val (zs.take k) (zs.getD k 0) = 0
      · have AP := Lib.hid ((AV.out k h1).1 a4)
        have CP := Lib.hid (PUT.out wr k h1 H2.out OK.out AP.out)
        have HS2 := Lib.hid (H1.out.step OK.out AP.out)
        rw [a4] at CO
        clear NO NN AV OF PUT ZC AP OK a4
        generalize zs.getD k 0 = z at *
        go_wp2_with fail
        refine CO.out.mono ?_
        rintro e wq ⟨rfl, rfl⟩
        go_wp2_with fail
        refine CP.out.mono ?_
        rintro e wq ⟨rfl, hva, i, v, hset⟩
        have K3 := Lib.hid (show Only b w wq by rw [hset]; exact H3.out.setCell i v)
        have K4 := Lib.hid (show wq.heap.size = w.heap.size by rw [hset]; simpa using H4.out)
        have K2 := Lib.hid hva
        clear hva hset CP CO
        go_wp2
        go_roundw
        case rel => exact ⟨k + 1, by go_num, by omega, HS2, K2, K3, K4⟩
        case measure => simp [intOf]; omega
      · have HF := Lib.hid (NO.out (fun g => (AV.out k h1).2 a4 g.2))
        have a4' : (val (zs.take k) (zs.getD k 0) == 0) = false := by simpa using a4
        clear NO NN AV OF PUT ZC OK
        generalize val (zs.take k) (zs.getD k 0) = y at *
        generalize zs.getD k 0 = z at *
        go_wp2_with fail
        refine CO.out.mono ?_
        rintro e wq ⟨rfl, rfl⟩
        go_wp2
        go_ret
        exact ⟨by rw [B_no HF.out]; rfl, fun h => absurd h HF.out, H3.out, H4.out⟩
    · have h1' : ¬ (k : Int) < (n : Int) := by omega
      have HY := Lib.hid (show Q by rw [← HQ.out]; have := H1.out; rwa [show k = n by omega] at this)
      have HE := Lib.hid (VE.out wr k (by omega) H2.out)
      clear NN AV OF PUT ZC
      go_wp2
      go_ret
      exact ⟨by rw [B_yes HY.out]; rfl, fun _ => HE.out, H3.out, H4.out⟩

end Go.Proofs.Ytdmnnclbcljdmaa
