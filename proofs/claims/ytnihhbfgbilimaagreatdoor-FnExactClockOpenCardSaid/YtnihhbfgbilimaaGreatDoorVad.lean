import Derived.Test.YtnihhbfgbilimaaGreatDoorTw
import Derived.Test.YtnihhbfgbilimaaGreatDoorVac
import Derived.Deep.LoopGhost
namespace Go.Proofs.YtnihhbfgbilimaaGreatDoor
open Go.RowKit
set_option linter.unusedVariables false
open List (setIfInBounds_toArray set_cons_zero set_cons_succ getElem_toArray getElem_cons_succ getElem_cons_zero)
theorem own_cap8 {w : World} {B : Nat} {e : TypeId} {m : Nat} {sl : Option Addr} {n cap : Nat} {k : Nat} {xs : List Value} (h : w.ownsRow B e m (.slice sl n cap) k xs) : k ≤ cap := by
 rcases h.2 with ⟨_, h0⟩ | ⟨g, cp, cur, hv, _, _, h5, _⟩
 ·rw [h0]; exact Nat.zero_le _
 ·cases hv; exact h5
theorem appZ {w : World} {B : Nat} {v : Value} {zs : List Int} (h : w.ownsRow B 2 1 v zs.length (valsZ zs)) {s : Option Addr} {r : List Int} (k : Nat) (hi : Ints w s r) (hB : B ≤ w.heap.size) (hl : zs.length + r.length ≤ 10000000) :
  ∃ v9 w9, (∀ ty, (Builtin.append_ #[34, 34] ty #[v, .slice s r.length k]).run Tryz.prog w = .ok v9 w9) ∧ w9.ownsRow B 2 1 v9 (zs ++ r).length (valsZ (zs ++ r)) ∧ w.grownBy w9 v.ownBlock ∧ ∀ j, v9.ownBlock = some j → v.ownBlock = some j ∨ j = w.heap.size := by
 obtain ⟨i3, hi3, hd0, hd1, hd2⟩ := info_parts info2'
 obtain ⟨sl, cap, rfl⟩ := own_v h
 by_cases he : r = []
 ·subst he
  exact ⟨_, w, fun ty => app_none40 w ty sl zs.length cap (own_cap8 h) s k, by rw [List.append_nil]; exact h, ⟨rfl, rfl, rfl, Nat.le_refl _, fun _ _ _ => rfl⟩, fun j hj => .inl hj⟩
 ·rcases hi with hi | ⟨c, o, rfl, hi⟩
  ·exact absurd hi he
  ·obtain ⟨g, c9, w9, hr, own9, grow9, hg, -⟩ := run_append_lies (P := Tryz.prog) w 34 34 B 2 i3 (.int .i64 0) 1 8 Tryz.underlying34 hi3 hd0 hd1 hd2 rfl (by decide) _ _ _ h ⟨c, o, none⟩ r.length k (valsZ r) (valsZ_len1 r) (int_cells hi) (valsZ_one r) (List.length_pos_iff.2 he) (by unfold maxLen; omega) (by omega) hB w.heap.size rfl
   refine ⟨_, w9, fun ty => hr, by rw [List.length_append, valsZ_add]; exact own9, grow9, fun j hj => ?_⟩
   have e : j = g := by simp [Value.ownBlock] at hj; exact hj.symm
   rcases hg with hg | hg
   ·exact .inl (by rw [hg, e])
   ·exact .inr (by omega)
structure SR (w : World) (vars : Int) (sl : Option Addr) (n cap : Nat) (O vb V : Nat) (W : World) (T U : List Int) (v : Value) : Prop where
 cnf : CnfAt W w.heap.size vars sl n cap
 box : BoxU W (w.heap.size + 1)
 out : W.heap[O]? = some (.cells #[v, .int .i64 (-1), .int .i64 0] 170)
 own : W.ownsRow (w.heap.size + 2) 2 1 v T.length (valsZ T)
 vals : SVAt W vb V U
 bel : Below w.heap.size w W
 ne : v.ownBlock ≠ some vb
 hO : w.heap.size + 1 < O
 hV : w.heap.size + 1 < vb
 hOV : O ≠ vb
theorem SR.keep {w : World} {vars : Int} {sl : Option Addr} {n cap O vb V : Nat} {W W' : World} {T U : List Int} {v : Value} (h : SR w vars sl n cap O vb V W T U v) (hb : Below W.heap.size W W') : SR w vars sl n cap O vb V W' T U v :=
 ⟨h.cnf.below hb, h.box.below hb, (hb.block O (Array.getElem?_eq_some_iff.1 h.out).1).trans h.out, own_below h.own hb, h.vals.below hb, bT h.bel hb, h.ne, h.hO, h.hV, h.hOV⟩
theorem SR.facts {w : World} {vars : Int} {sl : Option Addr} {n cap O vb V : Nat} {W : World} {T U : List Int} {v : Value} (h : SR w vars sl n cap O vb V W T U v) : w.heap.size < W.heap.size ∧ W.cell? ⟨w.heap.size, 0, none⟩ = some (.int .i64 vars) ∧ W.cell? ⟨w.heap.size, 1, none⟩ = some (.slice sl n cap) ∧ vb < W.heap.size ∧ O < W.heap.size ∧ W.cell? ⟨O, 0, none⟩ = some v ∧ W.cell? ⟨O, 1, none⟩ = some (.int .i64 (-1)) ∧ W.cell? ⟨O, 2, none⟩ = some (.int .i64 0) ∧ (∀ k, W.frozen? ⟨O, k, none⟩ = false) ∧ (∀ k, W.frozen? ⟨vb, k, none⟩ = false) := by
 have ho := h.out
 exact ⟨h.cnf.lt, h.cnf.cells.1, h.cnf.cells.2, h.vals.lt, (Array.getElem?_eq_some_iff.1 ho).1, by simp [World.cell?, ho], by simp [World.cell?, ho], by simp [World.cell?, ho], fun k => by simp [World.frozen?, ho], h.vals.frozen⟩
theorem SR.put {w : World} {vars : Int} {sl : Option Addr} {n cap O vb V : Nat} {W : World} {T U : List Int} {v : Value} (h : SR w vars sl n cap O vb V W T U v) (z : Int) (i j : Nat) (hi : (i : Int) = z + V) (hj : (j : Int) = (V : Int) - z) (h1 : z ∉ U) (h2 : -z ∉ U) (h0 : z ≠ 0) :
  SR w vars sl n cap O vb V ((W.setCell ⟨vb, i, none⟩ (.int .i64 1)).setCell ⟨vb, j, none⟩ (.int .i64 (-1))) T (U ++ [z]) v := by
 have hk : ∀ k, k ≠ vb → ((W.setCell ⟨vb, i, none⟩ (.int .i64 1)).setCell ⟨vb, j, none⟩ (.int .i64 (-1))).heap[k]? = W.heap[k]? := fun k hk => (heap_setCell_other _ ⟨vb, j, none⟩ k _ hk).trans (heap_setCell_other _ ⟨vb, i, none⟩ k _ hk)
 have hV := h.hV
 exact ⟨(hk _ (by omega)).trans h.cnf, (hk _ (by omega)).trans h.box, (hk _ h.hOV).trans h.out, own_set (own_set h.own h.ne i _) h.ne j _, h.vals.put z i j hi hj h1 h2 h0, (h.bel.setCell (p := ⟨vb, i, none⟩) (by show w.heap.size ≤ vb; omega) _).setCell (p := ⟨vb, j, none⟩) (by show w.heap.size ≤ vb; omega) _, h.ne, h.hO, h.hV, h.hOV⟩
theorem SR.more {w : World} {vars : Int} {sl : Option Addr} {n cap O vb V : Nat} {W w9 : World} {T U T' : List Int} {v v9 : Value} (h : SR w vars sl n cap O vb V W T U v) (hg : W.grownBy w9 v.ownBlock) (ho : w9.ownsRow (w.heap.size + 2) 2 1 v9 T'.length (valsZ T')) (hn : ∀ j, v9.ownBlock = some j → v.ownBlock = some j ∨ W.heap.size ≤ j) :
  SR w vars sl n cap O vb V (w9.setCell ⟨O, 0, none⟩ v9) T' U v9 := by
 have hOl := (Array.getElem?_eq_some_iff.1 h.out).1
 have nO : v.ownBlock ≠ some O := fun e => by
  obtain ⟨g, cp, cur, hv, hb, hg', _⟩ := (h.own.2.resolve_left (fun ⟨e2, _⟩ => by rw [e2] at e; simp [Value.ownBlock] at e))
  rw [hv] at e
  have : g = O := by simpa [Value.ownBlock] using e
  subst this
  rw [h.out] at hg'
  simp at hg'
 have hk : ∀ k, k < W.heap.size → some k ≠ v.ownBlock → k ≠ O → (w9.setCell ⟨O, 0, none⟩ v9).heap[k]? = W.heap[k]? := fun k h1 h2 h3 => (heap_setCell_other _ ⟨O, 0, none⟩ k _ h3).trans (hg.block k h1 h2)
 have hlo : ∀ j, v.ownBlock = some j → w.heap.size + 2 ≤ j := fun j hj => (h.own.lt j hj).1
 have hO := h.hO
 have nO9 : v9.ownBlock ≠ some O := fun e => by
  rcases hn O e with e | e
  ·exact nO e
  ·omega
 refine ⟨(hk _ h.cnf.lt (fun e => by have := hlo _ e.symm; omega) (by omega)).trans h.cnf, (hk _ h.box.facts.1 (fun e => by have := hlo _ e.symm; omega) (by omega)).trans h.box, ?_, own_set ho nO9 0 v9, (hk vb h.vals.lt (fun e => h.ne e.symm) (fun e => h.hOV e.symm)).trans h.vals, (h.bel.grown hg h.bel.size (fun k hk => by have := hlo k hk; omega)).setCell (p := ⟨O, 0, none⟩) (by show w.heap.size ≤ O; omega) _, fun e => ?_, h.hO, h.hV, h.hOV⟩
 ·exact heap_setCell_same w9 O 0 _ 170 v9 ((hg.block O hOl (fun e => nO e.symm)).trans h.out)
 ·rcases hn vb e with e | e
  ·exact h.ne e
  ·have := h.vals.lt; omega
theorem sArr_nil (V : Nat) : mk64 (2 * V + 1) = sArr V [] := by
 have := mk64_eq (List.replicate (2 * V + 1) 0)
 rw [List.length_replicate] at this
 rw [this]
 apply Array.ext
 ·simp [vsOf, sArr]
 ·intro i h1 h2
  have h3 : i < 2 * V + 1 := by simpa [sArr] using h2
  simp [vsOf, sArr, val_no]
theorem own_none8 (w : World) : (w.alloc (.cells #[] 2)).ownsRow w.heap.size 2 1 (.slice (some ⟨w.heap.size, 0, none⟩) 0 0) 0 [] :=
 ⟨rfl, .inr ⟨w.heap.size, 0, #[], rfl, Nat.le_refl _, by show (w.heap.push _)[w.heap.size]? = _; simp, Nat.le_refl _, Nat.zero_le _, rfl, rfl⟩⟩
theorem SR.new {w w9 : World} {vars : Int} {sl : Option Addr} {n cap V : Nat} {ts : List Int} {v9 : Value} (hc : CnfAt w9 w.heap.size vars sl n cap) (hx : BoxU w9 (w.heap.size + 1)) (ho : w9.ownsRow (w.heap.size + 2) 2 1 v9 ts.length (valsZ ts)) (hb : Below w.heap.size w w9) (hs : w.heap.size + 3 ≤ w9.heap.size) :
  SR w vars sl n cap w9.heap.size (w9.heap.size + 1) V ((w9.alloc (.cells #[v9, .int .i64 (-1), .int .i64 0] 170)).alloc (.cells (mk64 (2 * V + 1)) 2)) ts [] v9 := by
 have b1 := bA0 w9 (.cells #[v9, .int .i64 (-1), .int .i64 0] 170)
 have b2 := bA0 (w9.alloc (.cells #[v9, .int .i64 (-1), .int .i64 0] 170)) (.cells (mk64 (2 * V + 1)) 2)
 have h1 := new_at w9 (.cells #[v9, .int .i64 (-1), .int .i64 0] 170)
 have h2 := new_at (w9.alloc (.cells #[v9, .int .i64 (-1), .int .i64 0] 170)) (.cells (mk64 (2 * V + 1)) 2)
 have e1 : (w9.alloc (.cells #[v9, .int .i64 (-1), .int .i64 0] 170)).heap.size = w9.heap.size + 1 := by simp
 rw [e1, sArr_nil] at h2
 refine ⟨(hc.below b1).below b2, (hx.below b1).below b2, (b2.block _ (by omega)).trans h1, own_below (own_below ho b1) b2, ?_, bA (bA hb _) _, fun e => ?_, by omega, by omega, by omega⟩
 ·rw [sArr_nil]; exact h2
 ·have := (ho.lt _ e).2; omega
theorem SR.heap {w : World} {vars : Int} {sl : Option Addr} {n cap O vb V : Nat} {W W' : World} {T U : List Int} {v : Value} (h : SR w vars sl n cap O vb V W T U v) (he : W'.heap = W.heap) (hb : Below w.heap.size w W') : SR w vars sl n cap O vb V W' T U v := by
 have e : ∀ k : Nat, W'.heap[k]? = W.heap[k]? := fun k => by rw [he]
 refine ⟨(e _).trans h.cnf, (e _).trans h.box, (e _).trans h.out, own_kept h.own (fun k _ _ => e k), (e _).trans h.vals, hb, h.ne, h.hO, h.hV, h.hOV⟩
theorem due_at (ls : List LCl) (T : List Int) (k : Nat) (r : LCl) (hk : ls[k]? = some r) : dueL T k ((bareC ls).drop k) = match unitOf T r.2 with
  | some z => ((k : Int), z)
  | none => dueL T (k + 1) ((bareC ls).drop (k + 1)) := by
 have hl := (List.getElem?_eq_some_iff.1 hk).1
 rw [dueL_step T (bareC ls) k (by rw [bareC_length]; exact hl)]
 have e : (bareC ls).getD k [] = r.2 := by simp [bareC, hk]
 rw [e]
 cases unitOf T r.2 <;> rfl
set_option maxRecDepth 100000 in
set_option maxHeartbeats 8000000 in
theorem srn_any (V : Nat) (sl : Option Addr) (cap : Nat) (cs : List LCl) (sl2 : Option Addr) (cap2 : Nat) (ds : List LCl) (sl3 : Option Addr) (cap3 : Nat) (ts : List Int) (w : World) (hV : V ≤ 96) (hn : cs.length ≤ 100000) (hnd : ds.length ≤ 100000) (hs : SpTo (V : Int) ts ts.length) (hw : ∀ r ∈ cs ++ ds, ∀ z ∈ r.2, OkZ (V : Int) z) (hz : Cls w sl cs) (hd : Cls w sl2 ds) (ht : Ints w sl3 ts) :
  Calls Tryz.prog 132 #[CV (V : Int) sl cs.length cap, .slice sl2 ds.length cap2, .slice sl3 ts.length cap3] w (UPost w ((uRun (bareC cs) (bareC ds) ts).1, (uRun (bareC cs) (bareC ds) ts).2, 0)) := by
 obtain ⟨i0, hi0, hz0, hz1, hz2⟩ := info_parts info2'
 have hts := hs.short (by omega : (V : Int) ≤ 96)
 have hw1 : (w.alloc (.cells #[.int .i64 (V : Int), .slice sl cs.length cap] 110)).heap.size = w.heap.size + 1 := by simp
 have hw2 : ((w.alloc (.cells #[.int .i64 (V : Int), .slice sl cs.length cap] 110)).alloc (.cells #[.slice none 0 0, .int .i64 0, .int .i64 0] 170)).heap.size = w.heap.size + 2 := by simp
 have hw3 : (((w.alloc (.cells #[.int .i64 (V : Int), .slice sl cs.length cap] 110)).alloc (.cells #[.slice none 0 0, .int .i64 0, .int .i64 0] 170)).alloc (.cells #[] 2)).heap.size = w.heap.size + 3 := by simp
 have CA := Lib.hid (((CnfAt.new w (V : Int) sl cs.length cap).below (bA0 _ (.cells #[.slice none 0 0, .int .i64 0, .int .i64 0] 170))).below (bA0 _ (.cells #[] 2)))
 have B0 := Lib.hid (bA (bA (bA0 w (.cells #[.int .i64 (V : Int), .slice sl cs.length cap] 110)) (.cells #[.slice none 0 0, .int .i64 0, .int .i64 0] 170)) (.cells #[] 2))
 have X0 : Hid (BoxU (((w.alloc (.cells #[.int .i64 (V : Int), .slice sl cs.length cap] 110)).alloc (.cells #[.slice none 0 0, .int .i64 0, .int .i64 0] 170)).alloc (.cells #[] 2)) (w.heap.size + 1)) := by
  have h1 := new_at (w.alloc (.cells #[.int .i64 (V : Int), .slice sl cs.length cap] 110)) (.cells #[.slice none 0 0, .int .i64 0, .int .i64 0] 170)
  rw [hw1] at h1
  exact BoxU.below (w := (w.alloc (.cells #[.int .i64 (V : Int), .slice sl cs.length cap] 110)).alloc (.cells #[.slice none 0 0, .int .i64 0, .int .i64 0] 170)) h1 (bA0 _ _)
 have O0 := own_none8 ((w.alloc (.cells #[.int .i64 (V : Int), .slice sl cs.length cap] 110)).alloc (.cells #[.slice none 0 0, .int .i64 0, .int .i64 0] 170))
 rw [hw2] at O0
 obtain ⟨v9, w9, ha, ow, gr, hj⟩ := appZ (zs := []) O0 cap3 (ht.below B0.out) (by omega) (by simp; omega)
 simp only [List.nil_append] at ow
 have hj0 : ∀ j, v9.ownBlock = some j → w.heap.size + 2 ≤ j ∧ j < w9.heap.size := fun j hj => ow.lt j hj
 have gk : ∀ k, k < w.heap.size + 2 → w9.heap[k]? = (((w.alloc (.cells #[.int .i64 (V : Int), .slice sl cs.length cap] 110)).alloc (.cells #[.slice none 0 0, .int .i64 0, .int .i64 0] 170)).alloc (.cells #[] 2)).heap[k]? := fun k hk => gr.block k (by omega) (fun e => by simp [Value.ownBlock] at e; omega)
 have B9 := B0.out.grown gr (by omega) (fun k hk => by simp [Value.ownBlock] at hk; omega)
 have C9 : CnfAt w9 w.heap.size (V : Int) sl cs.length cap := (gk _ (by omega)).trans CA.out
 have X9 : BoxU w9 (w.heap.size + 1) := (gk _ (by omega)).trans X0.out
 have hs9 : w.heap.size + 3 ≤ w9.heap.size := by have := gr.size; omega
 obtain ⟨s9, k9, rfl⟩ := own_v ow
 have ha' := ha 34
 have R0 := Lib.hid (SR.new (V := V) C9 X9 ow B9 hs9)
 have hmk : ∀ W : World, Sem.run Tryz.prog (Instr.makeSlice 34 (.int .i64 (2 * (V : Int) + 1)) (.int .i64 (2 * (V : Int) + 1))) W = .ok (.slice (some ⟨W.heap.size, 0, none⟩) (2 * V + 1) (2 * V + 1)) (W.alloc (.cells (mk64 (2 * V + 1)) 2)) := fun W => by
  have := make64 (2 * V + 1) (by omega) W
  rw [show (((2 * V + 1 : Nat)) : Int) = 2 * (V : Int) + 1 by omega] at this
  exact this
 have cnf0 := C9.cells
 obtain ⟨t0, t1⟩ := (C9.below (bA0 _ (.cells #[.slice s9 ts.length k9, .int .i64 (-1), .int .i64 0] 170))).cells
 have tl := (C9.below (bA0 _ (.cells #[.slice s9 ts.length k9, .int .i64 (-1), .int .i64 0] 170))).lt
 clear gk gr hj hj0 ow ha cnf0 C9 X9 B9 O0 X0 CA
 go_enter Tryz.func132, Tryz.ntmps132
 go_wp2_with (at_builtin; refine Lib.wpList_append_run _ rfl _ _ _ _ rfl _ _ rfl rfl _ _ ha' ?_)
 have APZ := Lib.hid (show ∀ k, k < ts.length → OkZ (V : Int) (ts.getD k 0) ∧ ts.getD k 0 ∉ ts.take k ∧ -ts.getD k 0 ∉ ts.take k from fun k hk => ⟨(hs k hk).1, (apart_iff ts k hk).1 (hs k hk).2⟩)
 have TK1 := Lib.hid (fun k (hk : k < ts.length) => take_one ts k hk)
 have TKE := Lib.hid (show ∀ k, ts.length ≤ k → ts.take k = ts from fun k hk => List.take_of_length_le hk)
 have TC := Lib.hid (show ∀ W, Below w.heap.size w W → ∀ k, k < ts.length → ∃ c o, sl3 = some ⟨c, o, none⟩ ∧ c < w.heap.size ∧ W.cell? ⟨c, o + k, none⟩ = some (.int .i64 (ts.getD k 0)) from fun W hW k hk => by
  rcases ht with e | ⟨c, o, e, hi⟩
  ·rw [e] at hk; simp at hk
  ·exact ⟨c, o, e, hi.1, (hW.cell (p := ⟨c, o + k, none⟩) hi.1).trans (hi.2 k hk)⟩)
 generalize (w9.alloc (.cells #[.slice s9 ts.length k9, .int .i64 (-1), .int .i64 0] 170)).alloc (.cells (mk64 (2 * V + 1)) 2) = W2 at *
 generalize hvb : w9.heap.size + 1 = vb at *
 generalize w9.heap.size = O at *
 clear hvb t0 t1 tl
 generalize hq : ts.length = q at *
 have HQ := Lib.hid hq
 clear hq
 generalize hM : 2 * V + 1 = M at *
 have HMI := Lib.hid (show (M : Int) = 2 * (V : Int) + 1 by omega)
 have HMN := Lib.hid hM
 clear hM
 go_loopw [9] (fun i wr => ∃ k : Nat, i = .int .i64 k ∧ k ≤ q ∧ Hid (SR w (V : Int) sl cs.length cap O vb V wr ts (ts.take k) (.slice s9 q k9))) (fun i _ => q - (intOf i).toNat)
 case atStart => exact ⟨0, rfl, Nat.zero_le _, by simpa using R0⟩
 case round =>
  obtain ⟨k, rfl, hk, H1⟩ := hrel
  have hk0 : (0 : Int) ≤ (k : Int) := by omega
  by_cases h1 : k < q
  ·have h1' : (k : Int) < (q : Int) := by omega
   obtain ⟨c, o, rfl, hcl, hcell⟩ := TC.out wr H1.out.bel k h1
   obtain ⟨okz, nz1, nz2⟩ := APZ.out k h1
   have E1 := Lib.hid (TK1.out k h1)
   have NZ := Lib.hid (And.intro nz1 nz2)
   clear nz1 nz2 APZ TK1 TC
   generalize ts.getD k 0 = z at *
   obtain ⟨oz1, oz2, oz3⟩ := okz
   obtain ⟨i, hi⟩ : ∃ i : Nat, (i : Int) = z + (V : Int) := ⟨(z + V).toNat, by omega⟩
   obtain ⟨j, hj⟩ : ∃ j : Nat, (j : Int) = (V : Int) - z := ⟨((V : Int) - z).toNat, by omega⟩
   have hij : i ≠ j := by omega
   have hci := H1.out.vals.cell i (by omega)
   have hcj := H1.out.vals.cell j (by omega)
   obtain ⟨fl, f0, f1, fv, fo, -, -, -, -, ff⟩ := H1.out.facts
   have hVb := H1.out.hV
   have hfi := ff i
   have hfj := ff j
   have PUT := Lib.hid (show ∀ W, W.heap = ((wr.setCell ⟨vb, i, none⟩ (.int .i64 1)).setCell ⟨vb, j, none⟩ (.int .i64 (-1))).heap → Below w.heap.size w W → SR w (V : Int) sl cs.length cap O vb V W ts (ts.take (k + 1)) (.slice s9 q k9) from fun W he hb => by
    rw [E1.out]
    exact (H1.out.put z i j hi hj NZ.out.1 NZ.out.2 oz1).heap he hb)
   have BL := Lib.hid H1.out.bel
   have KS : Hid (∀ W : World, (∀ k', k' ≠ vb → W.heap[k']? = wr.heap[k']?) → wr.heap.size ≤ W.heap.size → w.heap.size < W.heap.size ∧ vb < W.heap.size ∧ W.cell? ⟨w.heap.size, 0, none⟩ = some (.int .i64 (V : Int)) ∧ W.cell? ⟨c, o + k, none⟩ = some (.int .i64 z)) := fun W h1 h2 =>
    ⟨by omega, by omega, (World.cell?_of_block (h1 w.heap.size (by omega))).trans f0, (World.cell?_of_block (h1 c (by omega))).trans hcell⟩
   clear ff H1 E1 NZ
   have w1 : IntKind.i64.wrap (z + (V : Int)) = z + (V : Int) := by rw [IntKind.wrap_i64]; omega
   have w2 : IntKind.i64.wrap ((V : Int) - z) = (V : Int) - z := by rw [IntKind.wrap_i64]; omega
   have i1 : (0 : Int) ≤ z + (V : Int) := by omega
   have i2 : z + (V : Int) < (M : Int) := by have := HMI.out; omega
   have i3 : (z + (V : Int)).toNat = i := by omega
   have j1 : (0 : Int) ≤ (V : Int) - z := by omega
   have j2 : (V : Int) - z < (M : Int) := by have := HMI.out; omega
   have j3 : ((V : Int) - z).toNat = j := by omega
   have k3 : ((k : Int)).toNat = k := by omega
   clear hi hj
   generalize val (ts.take k) ((i : Int) - (V : Int)) = y1 at *
   generalize val (ts.take k) ((j : Int) - (V : Int)) = y2 at *
   go_wp2_with fail
   refine wp_region_held_drew (S := fun W => w.heap.size < W.heap.size ∧ vb < W.heap.size ∧ W.cell? ⟨w.heap.size, 0, none⟩ = some (.int .i64 (V : Int)) ∧ W.cell? ⟨c, o + k, none⟩ = some (.int .i64 z)) (by kernel_rfl) ?_ (fun hHeld => ?_)
   ·exact KS.out _ (fun _ _ => rfl) (Nat.le_refl _)
   refine tw (i := 0) rfl ?_
   refine tw (i := 1) rfl ?_
   refine tw (i := 2) rfl ?_
   refine tw (i := 3) rfl ?_
   try simp only [Act.put, setIfInBounds_toArray, set_cons_zero, set_cons_succ, getElem_toArray, getElem_cons_succ, getElem_cons_zero]
   refine tw (i := 4) rfl ?_
   refine tw (i := 5) rfl ?_
   refine tw (i := 6) rfl ?_
   refine tw (i := 7) rfl ?_
   try simp only [Act.put, setIfInBounds_toArray, set_cons_zero, set_cons_succ, getElem_toArray, getElem_cons_succ, getElem_cons_zero]
   refine tw (i := 8) rfl ?_
   try simp only [Act.put, setIfInBounds_toArray, set_cons_zero, set_cons_succ, getElem_toArray, getElem_cons_succ, getElem_cons_zero]
   refine wpAnyH_ready (rs := [9]) (by kernel_rfl) (by simp) ?_
   refine AllReadyH.cons rfl (fun K hK => ?_) AllReadyH.nil
   go_simp
   refine hK.out _ _ ?_ (fun hHeld => ?_)
   ·exact KS.out _ (fun k' hk' => heap_setCell_other _ ⟨vb, i, none⟩ k' _ hk') (by simp)
   clear hK K
   refine wpAnyH_done (by kernel_rfl) ?_ _
   have KS6 : Hid (∀ W : World, (∀ k', k' ≠ vb → W.heap[k']? = (wr.setCell ⟨vb, i, none⟩ (.int .i64 1)).heap[k']?) → (wr.setCell ⟨vb, i, none⟩ (.int .i64 1)).heap.size ≤ W.heap.size → w.heap.size < W.heap.size ∧ vb < W.heap.size ∧ W.cell? ⟨w.heap.size, 0, none⟩ = some (.int .i64 (V : Int)) ∧ W.cell? ⟨c, o + k, none⟩ = some (.int .i64 z)) := fun W h1 h2 => KS.out W (fun k' hk' => (h1 k' hk').trans (heap_setCell_other _ ⟨vb, i, none⟩ k' _ hk')) (by simp at h2; exact h2)
   have hcj6 : (wr.setCell ⟨vb, i, none⟩ (.int .i64 1)).cell? ⟨vb, j, none⟩ = some (.int .i64 y2) := (World.cell?_setCell_other _ _ _ _ (by simp)).trans hcj
   have hfj6 : (wr.setCell ⟨vb, i, none⟩ (.int .i64 1)).frozen? ⟨vb, j, none⟩ = false := (World.frozen?_setCell _ _ _ _).trans hfj
   have B6 := Lib.hid (show Below w.heap.size w (wr.setCell ⟨vb, i, none⟩ (.int .i64 1)) from BL.out.setCell (p := ⟨vb, i, none⟩) (by show w.heap.size ≤ vb; omega) _)
   have P6 := Lib.hid (show ∀ W, W.heap = ((wr.setCell ⟨vb, i, none⟩ (.int .i64 1)).drew.setCell ⟨vb, j, none⟩ (.int .i64 (-1))).heap → Below w.heap.size w W → SR w (V : Int) sl cs.length cap O vb V W ts (ts.take (k + 1)) (.slice s9 q k9) from fun W he hb => PUT.out W he hb)
   clear KS hcj hfj PUT BL hcell f0 f1 hci hfi
   generalize wr.setCell ⟨vb, i, none⟩ (.int .i64 1) = w6 at *
   obtain ⟨q1, q2, f0, hcell⟩ := KS6.out w6 (fun _ _ => rfl) (Nat.le_refl _)
   go_wp2_with fail
   refine wp_region_held_drew (S := fun W => w.heap.size < W.heap.size ∧ vb < W.heap.size ∧ W.cell? ⟨w.heap.size, 0, none⟩ = some (.int .i64 (V : Int)) ∧ W.cell? ⟨c, o + k, none⟩ = some (.int .i64 z)) (by kernel_rfl) ?_ (fun hHeld => ?_)
   ·exact KS6.out _ (fun _ _ => rfl) (Nat.le_refl _)
   refine tw (i := 0) rfl ?_
   refine tw (i := 1) rfl ?_
   refine tw (i := 2) rfl ?_
   refine tw (i := 3) rfl ?_
   try simp only [Act.put, setIfInBounds_toArray, set_cons_zero, set_cons_succ, getElem_toArray, getElem_cons_succ, getElem_cons_zero]
   refine tw (i := 4) rfl ?_
   refine tw (i := 5) rfl ?_
   refine tw (i := 6) rfl ?_
   refine tw (i := 7) rfl ?_
   try simp only [Act.put, setIfInBounds_toArray, set_cons_zero, set_cons_succ, getElem_toArray, getElem_cons_succ, getElem_cons_zero]
   refine tw (i := 8) rfl ?_
   try simp only [Act.put, setIfInBounds_toArray, set_cons_zero, set_cons_succ, getElem_toArray, getElem_cons_succ, getElem_cons_zero]
   refine wpAnyH_ready (rs := [9]) (by kernel_rfl) (by simp) ?_
   refine AllReadyH.cons rfl (fun K hK => ?_) AllReadyH.nil
   go_simp
   refine hK.out _ _ ?_ (fun hHeld => ?_)
   ·exact KS6.out _ (fun k' hk' => heap_setCell_other _ ⟨vb, j, none⟩ k' _ hk') (by simp)
   clear hK K
   refine wpAnyH_done (by kernel_rfl) ?_ _
   have S9 := Lib.hid (P6.out (w6.setCell ⟨vb, j, none⟩ (.int .i64 (-1))).drew.drew rfl (((B6.out.setCell (p := ⟨vb, j, none⟩) (by show w.heap.size ≤ vb; omega) _)).drew.drew))
   clear KS6 P6 B6
   go_wp2
   go_roundw
   case rel => exact ⟨k + 1, by go_num, by omega, S9⟩
   case measure => simp [intOf]; omega
  ·have h1' : ¬ (k : Int) < (q : Int) := by omega
   have R1 : Hid (SR w (V : Int) sl cs.length cap O vb V wr ts ts (.slice s9 q k9)) := by
    have := H1.out
    rwa [TKE.out k (by omega)] at this
   clear H1 TKE TC TK1 APZ R0
   obtain ⟨fl, f0, f1, fv, fo, -⟩ := R1.out.facts
   go_wp2
   have HR0 := Lib.hid (show resF (bareC cs ++ bareC ds) (97 - ts.length) ts = uRun (bareC cs) (bareC ds) ts from rfl)
   have RFE := Lib.hid (show ∀ T, SpTo (V : Int) T T.length → (dueL T 0 (bareC cs ++ bareC ds)).2 = 0 → resF (bareC cs ++ bareC ds) (97 - T.length) T = (T, (dueL T 0 (bareC cs ++ bareC ds)).1) from fun T h1 h2 => resF_end _ _ _ (by have := h1.short (by omega : (V : Int) ≤ 96); omega) h2)
   have RFS := Lib.hid (show ∀ T, SpTo (V : Int) T T.length → ¬ (dueL T 0 (bareC cs ++ bareC ds)).2 = 0 → resF (bareC cs ++ bareC ds) (97 - T.length) T = resF (bareC cs ++ bareC ds) (97 - (T ++ [(dueL T 0 (bareC cs ++ bareC ds)).2]).length) (T ++ [(dueL T 0 (bareC cs ++ bareC ds)).2]) from fun T h1 h2 => by
    rw [resF_step _ _ _ (by have := h1.short (by omega : (V : Int) ≤ 96); omega) h2]
    congr 1
    simp; omega)
   have LIT := Lib.hid (show ∀ T, SpTo (V : Int) T T.length → ¬ (dueL T 0 (bareC cs ++ bareC ds)).2 = 0 → OkZ (V : Int) (dueL T 0 (bareC cs ++ bareC ds)).2 ∧ (dueL T 0 (bareC cs ++ bareC ds)).2 ∉ T ∧ -(dueL T 0 (bareC cs ++ bareC ds)).2 ∉ T ∧ SpTo (V : Int) (T ++ [(dueL T 0 (bareC cs ++ bareC ds)).2]) (T ++ [(dueL T 0 (bareC cs ++ bareC ds)).2]).length from fun T h1 h2 => by
    obtain ⟨g1, l, g2, g3⟩ := dueL_lit T (bareC cs ++ bareC ds) 0 h2
    rw [← bareC_add] at g2
    obtain ⟨r, hr, rfl⟩ := List.mem_map.1 g2
    have ok := hw r hr _ g3
    have nz := val_zero g1
    exact ⟨ok, nz.1, nz.2, h1.add ok nz.1 nz.2⟩)
   have SHO := Lib.hid (show ∀ T, SpTo (V : Int) T T.length → T.length ≤ 96 from fun T h => h.short (by omega))
   have DS := Lib.hid (show ∀ (T : List Int) (k : Nat) (r : LCl), (cs ++ ds)[k]? = some r → dueL T k ((bareC cs ++ bareC ds).drop k) = match unitOf T r.2 with
    | some z => ((k : Int), z)
    | none => dueL T (k + 1) ((bareC cs ++ bareC ds).drop (k + 1)) from fun T k r hk => by
    rw [← bareC_add]
    exact due_at _ T k r hk)
   have DE := Lib.hid (show ∀ T k, cs.length + ds.length ≤ k → dueL T k ((bareC cs ++ bareC ds).drop k) = (-1, 0) from fun T k hk => dueL_end T _ k (by rw [← bareC_add, bareC_length, List.length_append]; exact hk))
   have D0 := Lib.hid (show ∀ T, dueL T 0 (bareC cs ++ bareC ds) = dueL T 0 ((bareC cs ++ bareC ds).drop 0) from fun T => by simp)
   have CLA := Lib.hid (show ∀ k, k < cs.length → ∃ (r : LCl) (c o : Nat) (s : Option Addr) (kc : Nat), (cs ++ ds)[k]? = some r ∧ sl = some ⟨c, o, none⟩ ∧ r.1 = .slice s r.2.length kc ∧ (∀ W, Below w.heap.size w W → c < W.heap.size ∧ W.cell? ⟨c, o + k, none⟩ = some (.slice s r.2.length kc)) ∧ ∀ W T, SVAt W vb V T → Below w.heap.size w W → Calls Tryz.prog 165 #[.slice (some ⟨vb, 0, none⟩) M M, .slice s r.2.length kc, .int .i64 (V : Int)] W fun e w' => e = .returned (.tuple #[.int .i64 (uR (unitOf T r.2)).1, .bool (uR (unitOf T r.2)).2]) ∧ w' = W from fun k hk => by
    obtain ⟨c, o, e, cl, hc⟩ := hz.at hk
    obtain ⟨s, kc, e1, i1, l1⟩ := hz.each cs[k] (List.getElem_mem hk)
    refine ⟨cs[k], c, o, s, kc, by rw [List.getElem?_append_left hk, List.getElem?_eq_getElem hk], e, e1, fun W hW => ⟨by have := hW.size; omega, (hW.cell (p := ⟨c, o + k, none⟩) cl).trans ((hc k hk).trans (by rw [e1]))⟩, fun W T hv hW => ?_⟩
    rw [← HMN.out]
    exact su_any vb V T s kc cs[k].2 W hV hv l1 (hw _ (List.mem_append_left _ (List.getElem_mem hk))) (i1.below hW))
   have CLB := Lib.hid (show ∀ k, ¬ k < cs.length → k < cs.length + ds.length → ∃ (r : LCl) (c o : Nat) (s : Option Addr) (kc : Nat), (cs ++ ds)[k]? = some r ∧ sl2 = some ⟨c, o, none⟩ ∧ r.1 = .slice s r.2.length kc ∧ (∀ W, Below w.heap.size w W → c < W.heap.size ∧ W.cell? ⟨c, o + (k - cs.length), none⟩ = some (.slice s r.2.length kc)) ∧ ∀ W T, SVAt W vb V T → Below w.heap.size w W → Calls Tryz.prog 165 #[.slice (some ⟨vb, 0, none⟩) M M, .slice s r.2.length kc, .int .i64 (V : Int)] W fun e w' => e = .returned (.tuple #[.int .i64 (uR (unitOf T r.2)).1, .bool (uR (unitOf T r.2)).2]) ∧ w' = W from fun k hk hk2 => by
    have hk3 : k - cs.length < ds.length := by omega
    obtain ⟨c, o, e, cl, hc⟩ := hd.at hk3
    obtain ⟨s, kc, e1, i1, l1⟩ := hd.each ds[k - cs.length] (List.getElem_mem hk3)
    refine ⟨ds[k - cs.length], c, o, s, kc, by rw [List.getElem?_append_right (by omega), List.getElem?_eq_getElem hk3], e, e1, fun W hW => ⟨by have := hW.size; omega, (hW.cell (p := ⟨c, o + (k - cs.length), none⟩) cl).trans ((hc _ hk3).trans (by rw [e1]))⟩, fun W T hv hW => ?_⟩
    rw [← HMN.out]
    exact su_any vb V T s kc _ W hV hv l1 (hw _ (List.mem_append_right _ (List.getElem_mem hk3))) (i1.below hW))
   have NOB := Lib.hid (show ∀ W T v, SR w (V : Int) sl cs.length cap O vb V W T T v → v.ownBlock ≠ some O from fun W T v h e => by
    obtain ⟨g, cp, cur, hv, hb, hg', _⟩ := (h.own.2.resolve_left (fun ⟨e2, _⟩ => by rw [e2] at e; simp [Value.ownBlock] at e))
    rw [hv] at e
    have : g = O := by simpa [Value.ownBlock] using e
    subst this
    rw [h.out] at hg'
    simp at hg')
   have ST0 := Lib.hid (show SpTo (V : Int) ts ts.length by rw [HQ.out]; exact hs)
   unfold UPost
   have EQ0 : Hid (resF (bareC cs ++ bareC ds) (97 - ts.length) ts = uRun (bareC cs) (bareC ds) ts) := HR0
   clear hz hd ht hw hs HR0 fl f0 f1 fv fo
   generalize uRun (bareC cs) (bareC ds) ts = R at *
   generalize bareC cs ++ bareC ds = css at *
   generalize cs ++ ds = ls at *
   generalize cs.length = n at *
   generalize ds.length = m at *
   obtain ⟨wL, hwL⟩ : ∃ wL, wL = wr := ⟨_, rfl⟩
   rw [← hwL] at R1 ⊢
   clear hwL
   go_loopg [11] (400 - 2 * q) (fun g a wo => ∃ (ag : Bool) (T : List Int) (v : Value), a = .bool ag ∧ T.length ≤ 96 ∧ 2 * T.length + (cond ag 0 1) + g = 400 ∧ Hid (SR w (V : Int) sl n cap O vb V wo T T v) ∧ Hid (SpTo (V : Int) T T.length) ∧ Hid (ag = true → resF css (97 - T.length) T = R) ∧ Hid (ag = false → R = (T, -1)))
   case atStart => exact ⟨true, ts, _, rfl, by rw [HQ.out]; omega, by rw [HQ.out]; simp; omega, R1, ST0, fun _ => EQ0.out, fun h => by cases h⟩
   case round =>
    obtain ⟨ag, T, v, rfl, hT, hg, HSR, HS, HA, HB⟩ := hrel
    obtain ⟨vs, vc, rfl⟩ := own_v HSR.out.own
    obtain ⟨q2, hq2⟩ : ∃ q2, T.length = q2 := ⟨_, rfl⟩
    rw [hq2] at hT hg HSR
    have HQ2 := Lib.hid hq2
    clear hq2
    cases ag with
    | false =>
     have ER := Lib.hid (HB.out rfl)
     obtain ⟨rl, r0, r1, r2, rf0, rf1, rf2⟩ := HSR.out.box.facts
     obtain ⟨-, -, -, -, fo, g0, g1, g2, -, -⟩ := HSR.out.facts
     have P1 := Lib.hid (set3_below HSR.out.bel (show w.heap.size ≤ w.heap.size + 1 by omega) (.slice vs q2 vc) (.int .i64 (-1)) (.int .i64 0))
     have P2 := Lib.hid (own_mono (own_set3 HSR.out.own (b := w.heap.size + 1) (fun e => by have := (HSR.out.own.lt _ e).1; omega) (.slice vs q2 vc) (.int .i64 (-1)) (.int .i64 0)) (show w.heap.size ≤ w.heap.size + 2 by omega))
     unfold set3 at P1 P2
     rw [HQ2.out] at P2
     clear HSR HA HB CLA CLB DS DE RFE RFS LIT
     go_wp2
     refine bodyPost_ret (v := UV (.slice vs q2 vc) (-1) 0) (by simp [results, Tryz.results132, go_sem, r0, r1, r2]) rfl ?_
     exact ⟨_, by rw [ER.out], by rw [ER.out]; show World.ownsRow _ _ _ _ _ T.length _; rw [HQ2.out]; exact P2.out, P1.out⟩
    | true =>
     have HR := Lib.hid (HA.out rfl)
     simp only [cond_true] at hg
     clear HA HB
     have hnm : (n : Int) + (m : Int) ≤ 200000 := by omega
     have hm0 : (0 : Int) ≤ (m : Int) := by omega
     have hn0 : (0 : Int) ≤ (n : Int) := by omega
     go_wp2_with fail
     go_loopw [11, 12] (fun a i wi => ∃ (ag2 : Bool) (k : Nat) (T2 : List Int) (v2 : Value), a = .bool ag2 ∧ i = .int .i64 k ∧ k ≤ n + m ∧ Hid (SR w (V : Int) sl n cap O vb V wi T2 T2 v2) ∧ Hid ((ag2 = false ∧ T2 = T ∧ v2 = .slice vs q2 vc ∧ dueL T 0 css = dueL T k (css.drop k)) ∨ (ag2 = true ∧ ¬ (dueL T 0 css).2 = 0 ∧ T2 = T ++ [(dueL T 0 css).2]))) (fun _ i _ => n + m + 1 - (intOf i).toNat)
     case atStart => exact ⟨false, 0, T, _, rfl, rfl, Nat.zero_le _, HSR, .inl ⟨rfl, rfl, rfl, D0.out T⟩⟩
     case round =>
      obtain ⟨ag2, k, T2, v2, rfl, rfl, hk, HW, HP⟩ := hrel
      have hk0 : (0 : Int) ≤ (k : Int) := by omega
      cases ag2 with
      | true =>
       have HP2 : Hid (¬ (dueL T 0 css).2 = 0 ∧ T2 = T ++ [(dueL T 0 css).2]) := by
        rcases HP.out with ⟨h, _⟩ | ⟨_, h⟩
        ·cases h
        ·exact h
       have E1 := Lib.hid (RFS.out T HS.out HP2.out.1)
       have E2 := Lib.hid (LIT.out T HS.out HP2.out.1)
       have SP2 : Hid (SpTo (V : Int) T2 T2.length) := by rw [HP2.out.2]; exact E2.out.2.2.2
       have RS2 : Hid (resF css (97 - T2.length) T2 = R) := by
        show _ = _
        rw [HP2.out.2, ← E1.out]; exact HR.out
       have L2 := Lib.hid (show T2.length = q2 + 1 by rw [HP2.out.2, List.length_append, HQ2.out]; rfl)
       have L3 := Lib.hid (show T2.length ≤ 96 from SHO.out T2 SP2.out)
       clear HP HP2 E1 E2 CLA CLB DS DE RFE RFS LIT
       by_cases hkl : (k : Int) < (n : Int) + (m : Int)
       ·go_wp2
        go_roundg (gk - 2)
        case measure => have := L2.out; have := L3.out; omega
        case rel => exact ⟨true, T2, v2, rfl, L3.out, by rw [L2.out]; simp at hg ⊢; have := L2.out; have := L3.out; omega, HW, SP2, fun _ => RS2.out, fun h => by cases h⟩
       ·go_wp2
        go_roundg (gk - 2)
        case measure => have := L2.out; have := L3.out; omega
        case rel => exact ⟨true, T2, v2, rfl, L3.out, by rw [L2.out]; simp at hg ⊢; have := L2.out; have := L3.out; omega, HW, SP2, fun _ => RS2.out, fun h => by cases h⟩
      | false =>
       obtain ⟨e1, e2, HK⟩ : T2 = T ∧ v2 = .slice vs q2 vc ∧ Hid (dueL T 0 css = dueL T k (css.drop k)) := by
        rcases HP.out with ⟨_, h1, h2, h3⟩ | ⟨h, _⟩
        ·exact ⟨h1, h2, h3⟩
        ·cases h
       subst e1
       subst e2
       clear HP
       by_cases hkl : k < n + m
       ·have hkl' : (k : Int) < (n : Int) + (m : Int) := by omega
        have SK := Lib.hid (HW.out.keep (bA0 wr (.cells #[] 2)))
        by_cases hkn : k < n
        ·have hkn' : (k : Int) < (n : Int) := by omega
         obtain ⟨r, c, o, s, kc, hr, rfl, hr1, hcell, CU0⟩ := CLA.out k hkn
         have DR := Lib.hid (DS.out T2 k r hr)
         obtain ⟨hc1, hc2⟩ := hcell _ SK.out.bel
         have CU := Lib.hid (CU0 _ T2 SK.out.vals SK.out.bel)
         obtain ⟨fl, f0, f1, -⟩ := SK.out.facts
         clear hcell CU0 hr hr1 HW CLA CLB DS DE
         go_wp2_with fail
         generalize wr.alloc (.cells #[] 2) = wz at *
         cases hU : unitOf T2 r.2 with
         | none =>
          have DK := Lib.hid (show dueL T2 0 css = dueL T2 (k + 1) (css.drop (k + 1)) by rw [HK.out, DR.out, hU])
          rw [hU] at CU
          clear hU DR HK
          simp only [uR] at CU
          refine CU.out.mono ?_
          rintro e wq ⟨rfl, rfl⟩
          go_wp2
          go_roundw
          case rel => exact ⟨false, k + 1, T2, _, rfl, by go_num, by omega, SK, .inl ⟨rfl, rfl, rfl, DK.out⟩⟩
          case measure => simp [intOf]; omega
         | some z =>
          rw [hU] at CU
          simp only [uR] at CU
          have DK := Lib.hid (show dueL T2 0 css = ((k : Int), z) by rw [HK.out, DR.out, hU])
          clear hU DR HK
          by_cases z0 : z = 0
          ·subst z0
           have RE := Lib.hid (RFE.out T2 HS.out (by rw [DK.out]))
           have ER := Lib.hid (show R = (T2, (k : Int)) by rw [← HR.out, RE.out, DK.out])
           rw [beq_self_eq_true] at CU
           have hbO := SK.out.hO
           obtain ⟨-, -, -, -, fo, g0, g1, g2, gf, -⟩ := SK.out.facts
           have gf0 := gf 0
           have gf1 := gf 1
           have gf2 := gf 2
           have XB : BoxU (wz.setCell ⟨O, 1, none⟩ (.int .i64 (k : Int))) (w.heap.size + 1) := (heap_setCell_other _ ⟨O, 1, none⟩ _ _ (by show w.heap.size + 1 ≠ O; omega)).trans SK.out.box
           have P1 := Lib.hid (set3_below (SK.out.bel.setCell (p := ⟨O, 1, none⟩) (by show w.heap.size ≤ O; omega) (.int .i64 (k : Int))) (show w.heap.size ≤ w.heap.size + 1 by omega) (.slice vs q2 vc) (.int .i64 (k : Int)) (.int .i64 0))
           have P2 := Lib.hid (own_mono (own_set3 (own_set SK.out.own (b := O) (fun e => NOB.out wz _ _ SK.out e) 1 (.int .i64 (k : Int))) (b := w.heap.size + 1) (fun e => by have := (SK.out.own.lt _ e).1; omega) (.slice vs q2 vc) (.int .i64 (k : Int)) (.int .i64 0)) (show w.heap.size ≤ w.heap.size + 2 by omega))
           obtain ⟨xl, x0, x1, x2, xf0, xf1, xf2⟩ := XB.facts
           have y0 : (wz.setCell ⟨O, 1, none⟩ (.int .i64 (k : Int))).cell? ⟨O, 0, none⟩ = some (.slice vs q2 vc) := (World.cell?_setCell_other _ _ _ _ (by simp)).trans g0
           have y1 : (wz.setCell ⟨O, 1, none⟩ (.int .i64 (k : Int))).cell? ⟨O, 1, none⟩ = some (.int .i64 (k : Int)) := World.cell?_setCell_same _ _ _ g1
           have y2 : (wz.setCell ⟨O, 1, none⟩ (.int .i64 (k : Int))).cell? ⟨O, 2, none⟩ = some (.int .i64 0) := (World.cell?_setCell_other _ _ _ _ (by simp)).trans g2
           have yl : O < (wz.setCell ⟨O, 1, none⟩ (.int .i64 (k : Int))).heap.size := by simpa using fo
           unfold set3 at P1 P2
           rw [HQ2.out] at P2
           clear gf SK RE DK XB HS RFE RFS LIT
           refine CU.out.mono ?_
           rintro e wq ⟨rfl, rfl⟩
           go_wp2
           refine bodyPost_ret (v := UV (.slice vs q2 vc) (k : Int) 0) (by simp [results, Tryz.results132, go_sem, x0, x1, x2]) rfl ?_
           exact ⟨_, by rw [ER.out], by rw [ER.out]; show World.ownsRow _ _ _ _ _ T2.length _; rw [HQ2.out]; exact P2.out, P1.out⟩
          ·have E2 : Hid (OkZ (V : Int) z ∧ z ∉ T2 ∧ -z ∉ T2) := by
            have := LIT.out T2 HS.out (by rw [DK.out]; exact z0)
            rw [DK.out] at this
            exact ⟨this.1, this.2.1, this.2.2.1⟩
           have EP := Lib.hid (show ¬ (dueL T2 0 css).2 = 0 ∧ T2 ++ [z] = T2 ++ [(dueL T2 0 css).2] by rw [DK.out]; exact ⟨z0, rfl⟩)
           have z0' : (z == 0) = false := by simpa using z0
           rw [z0'] at CU
           obtain ⟨oz1, oz2, oz3⟩ := E2.out.1
           obtain ⟨i, hi⟩ : ∃ i : Nat, (i : Int) = z + (V : Int) := ⟨(z + V).toNat, by omega⟩
           obtain ⟨j, hj⟩ : ∃ j : Nat, (j : Int) = (V : Int) - z := ⟨((V : Int) - z).toNat, by omega⟩
           have hij : i ≠ j := by omega
           have hbO := SK.out.hO
           have hbV := SK.out.hV
           have hbOV := SK.out.hOV
           obtain ⟨-, -, -, fv, fo, g0, -, -, -, -⟩ := SK.out.facts
           have SA := Lib.hid (SK.out.keep (bA0 wz (.cells #[.int .i64 z] 2)))
           have OA := Lib.hid SA.out.own
           rw [HQ2.out] at OA
           have hszz := SK.out.bel.size
           have EV := Lib.hid (show valsZ T2 ++ [.int .i64 z] = valsZ (T2 ++ [z]) by simp [valsZ])
           have NB := Lib.hid (NOB.out wz _ _ SK.out)
           have i1 : (0 : Int) ≤ z + (V : Int) := by omega
           have i2 : z + (V : Int) < (M : Int) := by have := HMI.out; omega
           have i3 : (z + (V : Int)).toNat = i := by omega
           have j1 : (0 : Int) ≤ (V : Int) - z := by omega
           have j2 : (V : Int) - z < (M : Int) := by have := HMI.out; omega
           have j3 : ((V : Int) - z).toNat = j := by omega
           have a1 : z + (V : Int) ≤ 9223372036854775807 := by omega
           have a2 : -9223372036854775808 ≤ z + (V : Int) := by omega
           have a3 : (V : Int) - z ≤ 9223372036854775807 := by omega
           have a4 : -9223372036854775808 ≤ (V : Int) - z := by omega
           have SKH := Lib.hid (And.intro hi hj)
           clear hi hj DK RFE RFS LIT HS
           refine CU.out.mono ?_
           rintro e wq ⟨rfl, rfl⟩
           go_wp2_with (first | (at_builtin; refine wpList_append_lies _ rfl (.tmp 95) (.tmp 97) 34 rfl (w.heap.size + 2) 2 i0 (.int .i64 0) 1 8 Tryz.underlying34 hi0 hz0 hz1 hz2 rfl (by decide) _ _ _ rfl OA.out ⟨wq.heap.size, 0, none⟩ 1 1 [.int .i64 z] rfl rfl (cell_one_new _ _ _) (by intro u hu; simp at hu; subst hu; rfl) (by decide) (by unfold maxLen; omega) (by omega) (by simp; omega) (wq.heap.size + 1) (by simp) ?_))
           intro g9 cap9 w9 own9 grow9 hg9 hlt9
           rw [EV.out] at own9
           have L9 := Lib.hid (show (T2 ++ [z]).length = q2 + 1 by rw [List.length_append, HQ2.out]; rfl)
           have S1 := Lib.hid (SA.out.more (T' := T2 ++ [z]) grow9 (by rw [L9.out]; exact own9) (fun j hj => by
            have e : j = g9 := by simp [Value.ownBlock] at hj; exact hj.symm
            rcases hg9 with h | h
            ·exact .inl (by rw [h, e])
            ·exact .inr (by simp; omega)))
           have S2 := Lib.hid (S1.out.put z i j SKH.out.1 SKH.out.2 E2.out.2.1 E2.out.2.2 oz1)
           have bO : w9.heap[O]? = (wq.alloc (.cells #[.int .i64 z] 2)).heap[O]? := grow9.block O (by simp; omega) (fun e => NB.out e.symm)
           have o0 : w9.cell? ⟨O, 0, none⟩ = some (.slice vs q2 vc) := (World.cell?_of_block bO).trans SA.out.facts.2.2.2.2.2.1
           have o1 : w9.frozen? ⟨O, 0, none⟩ = false := (World.frozen?_of_block bO).trans (SA.out.facts.2.2.2.2.2.2.2.2.1 0)
           have o2 : O < w9.heap.size := by have := grow9.size; simp at this; omega
           obtain ⟨s1l, s1a, s1b, s1v, s1o, -, -, -, -, s1f⟩ := S1.out.facts
           have s1i := S1.out.vals.cell i (by have := SKH.out.1; omega)
           have s1j := S1.out.vals.cell j (by have := SKH.out.2; omega)
           have s1fi := s1f i
           have s1fj := s1f j
           clear own9 grow9 hg9 hlt9 SA OA bO SK s1f
           generalize val T2 ((i : Int) - (V : Int)) = y1 at *
           generalize val T2 ((j : Int) - (V : Int)) = y2 at *
           have x1a : ((w9.setCell ⟨O, 0, none⟩ (.slice (some ⟨g9, 0, none⟩) (q2 + 1) cap9)).setCell ⟨vb, i, none⟩ (.int .i64 1)).cell? ⟨w.heap.size, 0, none⟩ = some (.int .i64 (V : Int)) := (World.cell?_setCell_other _ _ _ _ (by simp)).trans s1a
           have x1j : ((w9.setCell ⟨O, 0, none⟩ (.slice (some ⟨g9, 0, none⟩) (q2 + 1) cap9)).setCell ⟨vb, i, none⟩ (.int .i64 1)).cell? ⟨vb, j, none⟩ = some (.int .i64 y2) := (World.cell?_setCell_other _ _ _ _ (by simp)).trans s1j
           have x1f : ((w9.setCell ⟨O, 0, none⟩ (.slice (some ⟨g9, 0, none⟩) (q2 + 1) cap9)).setCell ⟨vb, i, none⟩ (.int .i64 1)).frozen? ⟨vb, j, none⟩ = false := (World.frozen?_setCell _ _ _ _).trans s1fj
           have x1l : w.heap.size < ((w9.setCell ⟨O, 0, none⟩ (.slice (some ⟨g9, 0, none⟩) (q2 + 1) cap9)).setCell ⟨vb, i, none⟩ (.int .i64 1)).heap.size := by simpa using s1l
           go_wp2
           go_roundw
           case rel => exact ⟨true, k + 1, T2 ++ [z], _, rfl, by go_num, by omega, S2, .inr ⟨rfl, EP.out⟩⟩
           case measure => simp [intOf]; omega
        ·have hkn' : ¬ (k : Int) < (n : Int) := by omega
         have kn1 : ((k : Int) - (n : Int)).toNat = k - n := by omega
         have kn2 : (0 : Int) ≤ (k : Int) - (n : Int) := by omega
         have kn3 : (k : Int) - (n : Int) < (m : Int) := by omega
         obtain ⟨r, c, o, s, kc, hr, rfl, hr1, hcell, CU0⟩ := CLB.out k hkn hkl
         have DR := Lib.hid (DS.out T2 k r hr)
         obtain ⟨hc1, hc2⟩ := hcell _ SK.out.bel
         have CU := Lib.hid (CU0 _ T2 SK.out.vals SK.out.bel)
         obtain ⟨fl, f0, f1, -⟩ := SK.out.facts
         clear hcell CU0 hr hr1 HW CLA CLB DS DE
         go_wp2_with fail
         generalize wr.alloc (.cells #[] 2) = wz at *
         cases hU : unitOf T2 r.2 with
         | none =>
          have DK := Lib.hid (show dueL T2 0 css = dueL T2 (k + 1) (css.drop (k + 1)) by rw [HK.out, DR.out, hU])
          rw [hU] at CU
          clear hU DR HK
          simp only [uR] at CU
          refine CU.out.mono ?_
          rintro e wq ⟨rfl, rfl⟩
          go_wp2
          go_roundw
          case rel => exact ⟨false, k + 1, T2, _, rfl, by go_num, by omega, SK, .inl ⟨rfl, rfl, rfl, DK.out⟩⟩
          case measure => simp [intOf]; omega
         | some z =>
          rw [hU] at CU
          simp only [uR] at CU
          have DK := Lib.hid (show dueL T2 0 css = ((k : Int), z) by rw [HK.out, DR.out, hU])
          clear hU DR HK
          by_cases z0 : z = 0
          ·subst z0
           have RE := Lib.hid (RFE.out T2 HS.out (by rw [DK.out]))
           have ER := Lib.hid (show R = (T2, (k : Int)) by rw [← HR.out, RE.out, DK.out])
           rw [beq_self_eq_true] at CU
           have hbO := SK.out.hO
           obtain ⟨-, -, -, -, fo, g0, g1, g2, gf, -⟩ := SK.out.facts
           have gf0 := gf 0
           have gf1 := gf 1
           have gf2 := gf 2
           have XB : BoxU (wz.setCell ⟨O, 1, none⟩ (.int .i64 (k : Int))) (w.heap.size + 1) := (heap_setCell_other _ ⟨O, 1, none⟩ _ _ (by show w.heap.size + 1 ≠ O; omega)).trans SK.out.box
           have P1 := Lib.hid (set3_below (SK.out.bel.setCell (p := ⟨O, 1, none⟩) (by show w.heap.size ≤ O; omega) (.int .i64 (k : Int))) (show w.heap.size ≤ w.heap.size + 1 by omega) (.slice vs q2 vc) (.int .i64 (k : Int)) (.int .i64 0))
           have P2 := Lib.hid (own_mono (own_set3 (own_set SK.out.own (b := O) (fun e => NOB.out wz _ _ SK.out e) 1 (.int .i64 (k : Int))) (b := w.heap.size + 1) (fun e => by have := (SK.out.own.lt _ e).1; omega) (.slice vs q2 vc) (.int .i64 (k : Int)) (.int .i64 0)) (show w.heap.size ≤ w.heap.size + 2 by omega))
           obtain ⟨xl, x0, x1, x2, xf0, xf1, xf2⟩ := XB.facts
           have y0 : (wz.setCell ⟨O, 1, none⟩ (.int .i64 (k : Int))).cell? ⟨O, 0, none⟩ = some (.slice vs q2 vc) := (World.cell?_setCell_other _ _ _ _ (by simp)).trans g0
           have y1 : (wz.setCell ⟨O, 1, none⟩ (.int .i64 (k : Int))).cell? ⟨O, 1, none⟩ = some (.int .i64 (k : Int)) := World.cell?_setCell_same _ _ _ g1
           have y2 : (wz.setCell ⟨O, 1, none⟩ (.int .i64 (k : Int))).cell? ⟨O, 2, none⟩ = some (.int .i64 0) := (World.cell?_setCell_other _ _ _ _ (by simp)).trans g2
           have yl : O < (wz.setCell ⟨O, 1, none⟩ (.int .i64 (k : Int))).heap.size := by simpa using fo
           unfold set3 at P1 P2
           rw [HQ2.out] at P2
           clear gf SK RE DK XB HS RFE RFS LIT
           refine CU.out.mono ?_
           rintro e wq ⟨rfl, rfl⟩
           go_wp2
           refine bodyPost_ret (v := UV (.slice vs q2 vc) (k : Int) 0) (by simp [results, Tryz.results132, go_sem, x0, x1, x2]) rfl ?_
           exact ⟨_, by rw [ER.out], by rw [ER.out]; show World.ownsRow _ _ _ _ _ T2.length _; rw [HQ2.out]; exact P2.out, P1.out⟩
          ·have E2 : Hid (OkZ (V : Int) z ∧ z ∉ T2 ∧ -z ∉ T2) := by
            have := LIT.out T2 HS.out (by rw [DK.out]; exact z0)
            rw [DK.out] at this
            exact ⟨this.1, this.2.1, this.2.2.1⟩
           have EP := Lib.hid (show ¬ (dueL T2 0 css).2 = 0 ∧ T2 ++ [z] = T2 ++ [(dueL T2 0 css).2] by rw [DK.out]; exact ⟨z0, rfl⟩)
           have z0' : (z == 0) = false := by simpa using z0
           rw [z0'] at CU
           obtain ⟨oz1, oz2, oz3⟩ := E2.out.1
           obtain ⟨i, hi⟩ : ∃ i : Nat, (i : Int) = z + (V : Int) := ⟨(z + V).toNat, by omega⟩
           obtain ⟨j, hj⟩ : ∃ j : Nat, (j : Int) = (V : Int) - z := ⟨((V : Int) - z).toNat, by omega⟩
           have hij : i ≠ j := by omega
           have hbO := SK.out.hO
           have hbV := SK.out.hV
           have hbOV := SK.out.hOV
           obtain ⟨-, -, -, fv, fo, g0, -, -, -, -⟩ := SK.out.facts
           have SA := Lib.hid (SK.out.keep (bA0 wz (.cells #[.int .i64 z] 2)))
           have OA := Lib.hid SA.out.own
           rw [HQ2.out] at OA
           have hszz := SK.out.bel.size
           have EV := Lib.hid (show valsZ T2 ++ [.int .i64 z] = valsZ (T2 ++ [z]) by simp [valsZ])
           have NB := Lib.hid (NOB.out wz _ _ SK.out)
           have i1 : (0 : Int) ≤ z + (V : Int) := by omega
           have i2 : z + (V : Int) < (M : Int) := by have := HMI.out; omega
           have i3 : (z + (V : Int)).toNat = i := by omega
           have j1 : (0 : Int) ≤ (V : Int) - z := by omega
           have j2 : (V : Int) - z < (M : Int) := by have := HMI.out; omega
           have j3 : ((V : Int) - z).toNat = j := by omega
           have a1 : z + (V : Int) ≤ 9223372036854775807 := by omega
           have a2 : -9223372036854775808 ≤ z + (V : Int) := by omega
           have a3 : (V : Int) - z ≤ 9223372036854775807 := by omega
           have a4 : -9223372036854775808 ≤ (V : Int) - z := by omega
           have SKH := Lib.hid (And.intro hi hj)
           clear hi hj DK RFE RFS LIT HS
           refine CU.out.mono ?_
           rintro e wq ⟨rfl, rfl⟩
           go_wp2_with (first | (at_builtin; refine wpList_append_lies _ rfl (.tmp 95) (.tmp 97) 34 rfl (w.heap.size + 2) 2 i0 (.int .i64 0) 1 8 Tryz.underlying34 hi0 hz0 hz1 hz2 rfl (by decide) _ _ _ rfl OA.out ⟨wq.heap.size, 0, none⟩ 1 1 [.int .i64 z] rfl rfl (cell_one_new _ _ _) (by intro u hu; simp at hu; subst hu; rfl) (by decide) (by unfold maxLen; omega) (by omega) (by simp; omega) (wq.heap.size + 1) (by simp) ?_))
           intro g9 cap9 w9 own9 grow9 hg9 hlt9
           rw [EV.out] at own9
           have L9 := Lib.hid (show (T2 ++ [z]).length = q2 + 1 by rw [List.length_append, HQ2.out]; rfl)
           have S1 := Lib.hid (SA.out.more (T' := T2 ++ [z]) grow9 (by rw [L9.out]; exact own9) (fun j hj => by
            have e : j = g9 := by simp [Value.ownBlock] at hj; exact hj.symm
            rcases hg9 with h | h
            ·exact .inl (by rw [h, e])
            ·exact .inr (by simp; omega)))
           have S2 := Lib.hid (S1.out.put z i j SKH.out.1 SKH.out.2 E2.out.2.1 E2.out.2.2 oz1)
           have bO : w9.heap[O]? = (wq.alloc (.cells #[.int .i64 z] 2)).heap[O]? := grow9.block O (by simp; omega) (fun e => NB.out e.symm)
           have o0 : w9.cell? ⟨O, 0, none⟩ = some (.slice vs q2 vc) := (World.cell?_of_block bO).trans SA.out.facts.2.2.2.2.2.1
           have o1 : w9.frozen? ⟨O, 0, none⟩ = false := (World.frozen?_of_block bO).trans (SA.out.facts.2.2.2.2.2.2.2.2.1 0)
           have o2 : O < w9.heap.size := by have := grow9.size; simp at this; omega
           obtain ⟨s1l, s1a, s1b, s1v, s1o, -, -, -, -, s1f⟩ := S1.out.facts
           have s1i := S1.out.vals.cell i (by have := SKH.out.1; omega)
           have s1j := S1.out.vals.cell j (by have := SKH.out.2; omega)
           have s1fi := s1f i
           have s1fj := s1f j
           clear own9 grow9 hg9 hlt9 SA OA bO SK s1f
           generalize val T2 ((i : Int) - (V : Int)) = y1 at *
           generalize val T2 ((j : Int) - (V : Int)) = y2 at *
           have x1a : ((w9.setCell ⟨O, 0, none⟩ (.slice (some ⟨g9, 0, none⟩) (q2 + 1) cap9)).setCell ⟨vb, i, none⟩ (.int .i64 1)).cell? ⟨w.heap.size, 0, none⟩ = some (.int .i64 (V : Int)) := (World.cell?_setCell_other _ _ _ _ (by simp)).trans s1a
           have x1j : ((w9.setCell ⟨O, 0, none⟩ (.slice (some ⟨g9, 0, none⟩) (q2 + 1) cap9)).setCell ⟨vb, i, none⟩ (.int .i64 1)).cell? ⟨vb, j, none⟩ = some (.int .i64 y2) := (World.cell?_setCell_other _ _ _ _ (by simp)).trans s1j
           have x1f : ((w9.setCell ⟨O, 0, none⟩ (.slice (some ⟨g9, 0, none⟩) (q2 + 1) cap9)).setCell ⟨vb, i, none⟩ (.int .i64 1)).frozen? ⟨vb, j, none⟩ = false := (World.frozen?_setCell _ _ _ _).trans s1fj
           have x1l : w.heap.size < ((w9.setCell ⟨O, 0, none⟩ (.slice (some ⟨g9, 0, none⟩) (q2 + 1) cap9)).setCell ⟨vb, i, none⟩ (.int .i64 1)).heap.size := by simpa using s1l
           go_wp2
           go_roundw
           case rel => exact ⟨true, k + 1, T2 ++ [z], _, rfl, by go_num, by omega, S2, .inr ⟨rfl, EP.out⟩⟩
           case measure => simp [intOf]; omega
       ·have hkl' : ¬ (k : Int) < (n : Int) + (m : Int) := by omega
        have E1 := Lib.hid (show dueL T2 0 css = (-1, 0) by rw [HK.out]; exact DE.out T2 k (by omega))
        have ER := Lib.hid (show R = (T2, -1) by rw [← HR.out, RFE.out T2 HS.out (by rw [E1.out]), E1.out])
        clear HK E1 CLA CLB DS DE RFE RFS LIT
        go_wp2
        go_roundg (gk - 1)
        case measure => omega
        case rel => exact ⟨false, T2, _, rfl, by rw [HQ2.out]; exact hT, by rw [HQ2.out]; simp at hg ⊢; omega, HW, HS, (fun h => by cases h), fun _ => ER.out⟩
noncomputable def opn (T : List Int) : Nat → Nat → Nat
 | 0, _ => 0
 | n + 1, k => if val T (k : Int) = 0 then k else opn T n (k + 1)
theorem opn_yes {T : List Int} {n k : Nat} (hn : 0 < n) (h : val T (k : Int) = 0) : opn T n k = k := by
 obtain ⟨m, rfl⟩ : ∃ m, n = m + 1 := ⟨n - 1, by omega⟩
 rw [opn, if_pos h]
theorem opn_no {T : List Int} {n k : Nat} (hn : 0 < n) (h : ¬ val T (k : Int) = 0) : opn T n k = opn T (n - 1) (k + 1) := by
 obtain ⟨m, rfl⟩ : ∃ m, n = m + 1 := ⟨n - 1, by omega⟩
 rw [opn, if_neg h]
 rfl
theorem opn_spec (T : List Int) : ∀ (n k : Nat), ¬ opn T n k = 0 → (k ≤ opn T n k ∧ opn T n k < k + n) ∧ val T (opn T n k : Int) = 0
 | 0, k, h => absurd rfl h
 | n + 1, k, h => by
  by_cases hv : val T (k : Int) = 0
  ·rw [opn_yes (by omega) hv]; exact ⟨⟨by omega, by omega⟩, hv⟩
  ·rw [opn_no (by omega) hv] at h ⊢
   obtain ⟨⟨h1, h2⟩, h3⟩ := opn_spec T n (k + 1) h
   exact ⟨⟨by simp only [Nat.add_sub_cancel]; omega, by simp only [Nat.add_sub_cancel]; omega⟩, h3⟩
theorem resF_ext (css : List (List Int)) : ∀ (n : Nat) (tr : List Int), ∃ fl, (resF css n tr).1 = tr ++ fl
 | 0, tr => ⟨[], by simp [resF]⟩
 | n + 1, tr => by
  unfold resF
  split
  ·exact ⟨[], by simp⟩
  ·obtain ⟨fl, h⟩ := resF_ext css n (tr ++ [(dueL tr 0 css).2])
   exact ⟨(dueL tr 0 css).2 :: fl, by rw [h]; simp⟩
theorem resF_sp {vars : Int} (css : List (List Int)) (hw : ∀ l ∈ css, ∀ z ∈ l, OkZ vars z) : ∀ (n : Nat) (tr : List Int), SpTo vars tr tr.length → SpTo vars (resF css n tr).1 (resF css n tr).1.length
 | 0, tr, h => h
 | n + 1, tr, h => by
  unfold resF
  by_cases hd : (dueL tr 0 css).2 = 0
  ·rw [if_pos hd]; exact h
  ·rw [if_neg hd]
   obtain ⟨g1, l, g2, g3⟩ := dueL_lit tr css 0 hd
   exact resF_sp css hw n _ (h.add (hw l g2 _ g3) (val_zero g1).1 (val_zero g1).2)
section
variable {css : List (List Int)} {V n : Nat} {st : Int} {L : List (List Int)} {D : List Int}
end
structure SOk (css : List (List Int)) (V : Nat) (L : List (List Int)) (D : List Int) : Prop where
 cl : ∀ l ∈ css, ∀ z ∈ l, OkZ (V : Int) z
 lm : ∀ l ∈ L, ∀ z ∈ l, OkZ (V : Int) z
 ds : SpTo (V : Int) D D.length
theorem SOk.all {css : List (List Int)} {V : Nat} {L : List (List Int)} {D : List Int} (h : SOk css V L D) : ∀ l ∈ css ++ L, ∀ z ∈ l, OkZ (V : Int) z := fun l hl => by
 rcases List.mem_append.1 hl with h1 | h1
 ·exact h.cl l h1
 ·exact h.lm l h1
theorem SOk.push {css : List (List Int)} {V : Nat} {L : List (List Int)} {D : List Int} (h : SOk css V L D) (h2 : ¬ opn (uRun css L D).1 V 1 = 0) : SOk css V L (D ++ [(opn (uRun css L D).1 V 1 : Int)]) := by
 refine ⟨h.cl, h.lm, ?_⟩
 obtain ⟨⟨h3, h4⟩, h5⟩ := opn_spec _ _ _ h2
 have nz := val_zero h5
 obtain ⟨fl, hf⟩ : ∃ fl, (uRun css L D).1 = D ++ fl := resF_ext _ _ _
 generalize opn (uRun css L D).1 V 1 = z at *
 rw [hf] at nz
 exact h.ds.add ⟨by omega, by omega, by omega⟩ (fun hm => nz.1 (by simp [hm])) (fun hm => nz.2 (by simp [hm]))
theorem SOk.short {css : List (List Int)} {V : Nat} {L : List (List Int)} {D : List Int} (h : SOk css V L D) (hV : V ≤ 96) : D.length ≤ 96 := h.ds.short (by omega)
end Go.Proofs.YtnihhbfgbilimaaGreatDoor
