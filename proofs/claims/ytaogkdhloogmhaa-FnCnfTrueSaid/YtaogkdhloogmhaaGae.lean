/-
  WHAT FOLLOWS AT ONCE, as the model runs it: spec.l08Run, the walk.
  THE MODEL'S SEARCH: its state, and what turns it.
-/
import Derived.Test.YtaogkdhloogmhaaHao
import Derived.Test.YtaogkdhloogmhaaHam
import Derived.Test.YtaogkdhloogmhaaHaf
import Derived.Test.YtaogkdhloogmhaaHaj
import Derived.Test.YtaogkdhloogmhaaHah
import Derived.Test.YtaogkdhloogmhaaHae
import Derived.Test.YtaogkdhloogmhaaHab
import Derived.Test.YtaogkdhloogmhaaHaa
import Derived.Test.YtaogkdhloogmhaaGac
import Derived.Deep.LoopGhost
import Derived.Test.YtaogkdhloogmhaaGad
import Derived.Test.YtaogkdhloogmhaaGab
namespace Go.Proofs.Ytaogkdhloogmhaa
open Go.RowKit
set_option linter.unusedVariables false

theorem SR.heap {w : World} {vars : Int} {sl : Option Addr} {n cap O vb V : Nat} {W W' : World} {T U : List Int} {v : Value} (h : SR w vars sl n cap O vb V W T U v) (he : W'.heap = W.heap) (hb : Below w.heap.size w W') : SR w vars sl n cap O vb V W' T U v := by
  have e : ∀ k : Nat, W'.heap[k]? = W.heap[k]? := fun k => by rw [he]
  refine ⟨(e _).trans h.cnf, (e _).trans h.box, (e _).trans h.out, own_kept h.own (fun k _ _ => e k), (e _).trans h.vals, hb, h.ne, h.hO, h.hV, h.hOV⟩

theorem due_at (ls : List LCl) (T : List Int) (k : Nat) (r : LCl) (hk : ls[k]? = some r) : dueL T k ((bareC ls).drop k) = match unitOf T r.2 with
    | some z => ((k : Int), z)
    | none => dueL T (k + 1) ((bareC ls).drop (k + 1)) := by
  have hl := (List.getElem?_eq_some_iff.1 hk).1
  rw [dueL_step T (bareC ls) k (by rw [bareC_length]; exact hl)]
  have e : (bareC ls).getD k [] = r.2 := by simp [bareC, hk]
  rw [e]
  cases unitOf T r.2 <;> rfl

set_option maxRecDepth 100000 in
set_option maxHeartbeats 8000000 in
/-- spec.l08Run, of what is right. -/
theorem srn_any (V : Nat) (sl : Option Addr) (cap : Nat) (cs : List LCl) (sl2 : Option Addr) (cap2 : Nat) (ds : List LCl) (sl3 : Option Addr) (cap3 : Nat) (ts : List Int) (w : World) (hV : V ≤ 96) (hn : cs.length ≤ 100000) (hnd : ds.length ≤ 100000) (hs : SpTo (V : Int) ts ts.length) (hw : ∀ r ∈ cs ++ ds, ∀ z ∈ r.2, OkZ (V : Int) z) (hz : Cls w sl cs) (hd : Cls w sl2 ds) (ht : Ints w sl3 ts) :
    Calls Try.prog 41 #[CV (V : Int) sl cs.length cap, .slice sl2 ds.length cap2, .slice sl3 ts.length cap3] w (UPost w ((uRun (bareC cs) (bareC ds) ts).1, (uRun (bareC cs) (bareC ds) ts).2, 0)) := by
  obtain ⟨i0, hi0, hz0, hz1, hz2⟩ := info_parts info2'
  have hts := hs.short (by omega : (V : Int) ≤ 96)
  have hw1 : (w.alloc (.cells #[.int .i64 (V : Int), .slice sl cs.length cap] 33)).heap.size = w.heap.size + 1 := by simp
  have hw2 : ((w.alloc (.cells #[.int .i64 (V : Int), .slice sl cs.length cap] 33)).alloc (.cells #[.slice none 0 0, .int .i64 0, .int .i64 0] 81)).heap.size = w.heap.size + 2 := by simp
  have hw3 : (((w.alloc (.cells #[.int .i64 (V : Int), .slice sl cs.length cap] 33)).alloc (.cells #[.slice none 0 0, .int .i64 0, .int .i64 0] 81)).alloc (.cells #[] 2)).heap.size = w.heap.size + 3 := by simp
  have CA := Lib.hid (((CnfAt.new w (V : Int) sl cs.length cap).below (bA0 _ (.cells #[.slice none 0 0, .int .i64 0, .int .i64 0] 81))).below (bA0 _ (.cells #[] 2)))
  have B0 := Lib.hid (bA (bA (bA0 w (.cells #[.int .i64 (V : Int), .slice sl cs.length cap] 33)) (.cells #[.slice none 0 0, .int .i64 0, .int .i64 0] 81)) (.cells #[] 2))
  have X0 : Hid (BoxU (((w.alloc (.cells #[.int .i64 (V : Int), .slice sl cs.length cap] 33)).alloc (.cells #[.slice none 0 0, .int .i64 0, .int .i64 0] 81)).alloc (.cells #[] 2)) (w.heap.size + 1)) := by
    have h1 := new_at (w.alloc (.cells #[.int .i64 (V : Int), .slice sl cs.length cap] 33)) (.cells #[.slice none 0 0, .int .i64 0, .int .i64 0] 81)
    rw [hw1] at h1
    exact BoxU.below (w := (w.alloc (.cells #[.int .i64 (V : Int), .slice sl cs.length cap] 33)).alloc (.cells #[.slice none 0 0, .int .i64 0, .int .i64 0] 81)) h1 (bA0 _ _)
  have O0 := own_none8 ((w.alloc (.cells #[.int .i64 (V : Int), .slice sl cs.length cap] 33)).alloc (.cells #[.slice none 0 0, .int .i64 0, .int .i64 0] 81))
  rw [hw2] at O0
  obtain ⟨v9, w9, ha, ow, gr, hj⟩ := appZD (zs := []) O0 cap3 (ht.below B0.out) (by omega) (by simp; omega)
  simp only [List.nil_append] at ow
  have hj0 : ∀ j, v9.ownBlock = some j → w.heap.size + 2 ≤ j ∧ j < w9.heap.size := fun j hj => ow.lt j hj
  have gk : ∀ k, k < w.heap.size + 2 → w9.heap[k]? = (((w.alloc (.cells #[.int .i64 (V : Int), .slice sl cs.length cap] 33)).alloc (.cells #[.slice none 0 0, .int .i64 0, .int .i64 0] 81)).alloc (.cells #[] 2)).heap[k]? := fun k hk => gr.block k (by omega) (fun e => by simp [Value.ownBlock] at e; omega)
  have B9 := B0.out.grown gr (by omega) (fun k hk => by simp [Value.ownBlock] at hk; omega)
  have C9 : CnfAt w9 w.heap.size (V : Int) sl cs.length cap := (gk _ (by omega)).trans CA.out
  have X9 : BoxU w9 (w.heap.size + 1) := (gk _ (by omega)).trans X0.out
  have hs9 : w.heap.size + 3 ≤ w9.heap.size := by have := gr.size; omega
  obtain ⟨s9, k9, rfl⟩ := own_v ow
  have ha' := ha 27
  have R0 := Lib.hid (SR.new (V := V) C9 X9 ow B9 hs9)
  have hmk : ∀ W : World, Sem.run Try.prog (Instr.makeSlice 27 (.int .i64 (2 * (V : Int) + 1)) (.int .i64 (2 * (V : Int) + 1))) W = .ok (.slice (some ⟨W.heap.size, 0, none⟩) (2 * V + 1) (2 * V + 1)) (W.alloc (.cells (mk64 (2 * V + 1)) 2)) := fun W => by
    have := make64 (2 * V + 1) (by omega) W
    rw [show (((2 * V + 1 : Nat)) : Int) = 2 * (V : Int) + 1 by omega] at this
    exact this
  have cnf0 := C9.cells
  obtain ⟨t0, t1⟩ := (C9.below (bA0 _ (.cells #[.slice s9 ts.length k9, .int .i64 (-1), .int .i64 0] 81))).cells
  have tl := (C9.below (bA0 _ (.cells #[.slice s9 ts.length k9, .int .i64 (-1), .int .i64 0] 81))).lt
  clear gk gr hj hj0 ow ha cnf0 C9 X9 B9 O0 X0 CA
  go_enter Try.func41, Try.ntmps41
  go_wp2_with (at_builtin; refine Lib.wpList_append_run _ rfl _ _ _ _ rfl _ _ rfl rfl _ _ ha' ?_)
  have APZ := Lib.hid (show ∀ k, k < ts.length → OkZ (V : Int) (ts.getD k 0) ∧ ts.getD k 0 ∉ ts.take k ∧ -ts.getD k 0 ∉ ts.take k from fun k hk => ⟨(hs k hk).1, (apart_iff ts k hk).1 (hs k hk).2⟩)
  have TK1 := Lib.hid (fun k (hk : k < ts.length) => take_one ts k hk)
  have TKE := Lib.hid (show ∀ k, ts.length ≤ k → ts.take k = ts from fun k hk => List.take_of_length_le hk)
  have TC := Lib.hid (show ∀ W, Below w.heap.size w W → ∀ k, k < ts.length → ∃ c o, sl3 = some ⟨c, o, none⟩ ∧ c < w.heap.size ∧ W.cell? ⟨c, o + k, none⟩ = some (.int .i64 (ts.getD k 0)) from fun W hW k hk => by
    rcases ht with e | ⟨c, o, e, hi⟩
    · rw [e] at hk; simp at hk
    · exact ⟨c, o, e, hi.1, (hW.cell (p := ⟨c, o + k, none⟩) hi.1).trans (hi.2 k hk)⟩)
  generalize (w9.alloc (.cells #[.slice s9 ts.length k9, .int .i64 (-1), .int .i64 0] 81)).alloc (.cells (mk64 (2 * V + 1)) 2) = W2 at *
  generalize hvb : w9.heap.size + 1 = vb at *
  generalize w9.heap.size = O at *
  clear hvb t0 t1 tl
  generalize hq : ts.length = q at *
  have HQ := Lib.hid hq
  clear hq
  generalize hM : 2 * V + 1 = M at *
  have HMI := Lib.hid (show (M : Int) = 2 * (V : Int) + 1 by omega)
  have HMN := Lib.hid hM
  clear hM
  go_loopw [9] (fun i wr => ∃ k : Nat, i = .int .i64 k ∧ k ≤ q ∧ Hid (SR w (V : Int) sl cs.length cap O vb V wr ts (ts.take k) (.slice s9 q k9))) (fun i _ => q - (intOf i).toNat)
  case atStart => exact ⟨0, rfl, Nat.zero_le _, by simpa using R0⟩
  case round =>
    obtain ⟨k, rfl, hk, H1⟩ := hrel
    have hk0 : (0 : Int) ≤ (k : Int) := by omega
    by_cases h1 : k < q
    · have h1' : (k : Int) < (q : Int) := by omega
      obtain ⟨c, o, rfl, hcl, hcell⟩ := TC.out wr H1.out.bel k h1
      obtain ⟨okz, nz1, nz2⟩ := APZ.out k h1
      have E1 := Lib.hid (TK1.out k h1)
      have NZ := Lib.hid (And.intro nz1 nz2)
      clear nz1 nz2 APZ TK1 TC
      generalize ts.getD k 0 = z at *
      obtain ⟨oz1, oz2, oz3⟩ := okz
      obtain ⟨i, hi⟩ : ∃ i : Nat, (i : Int) = z + (V : Int) := ⟨(z + V).toNat, by omega⟩
      obtain ⟨j, hj⟩ : ∃ j : Nat, (j : Int) = (V : Int) - z := ⟨((V : Int) - z).toNat, by omega⟩
      have hij : i ≠ j := by omega
      have hci := H1.out.vals.cell i (by omega)
      have hcj := H1.out.vals.cell j (by omega)
      obtain ⟨fl, f0, f1, fv, fo, -, -, -, -, ff⟩ := H1.out.facts
      have hVb := H1.out.hV
      have hfi := ff i
      have hfj := ff j
      have PUT := Lib.hid (show ∀ W, W.heap = ((wr.setCell ⟨vb, i, none⟩ (.int .i64 1)).setCell ⟨vb, j, none⟩ (.int .i64 (-1))).heap → Below w.heap.size w W → SR w (V : Int) sl cs.length cap O vb V W ts (ts.take (k + 1)) (.slice s9 q k9) from fun W he hb => by
        rw [E1.out]
        exact (H1.out.put z i j hi hj NZ.out.1 NZ.out.2 oz1).heap he hb)
      have BL := Lib.hid H1.out.bel
      have KS : Hid (∀ W : World, (∀ k', k' ≠ vb → W.heap[k']? = wr.heap[k']?) → wr.heap.size ≤ W.heap.size → w.heap.size < W.heap.size ∧ vb < W.heap.size ∧ W.cell? ⟨w.heap.size, 0, none⟩ = some (.int .i64 (V : Int)) ∧ W.cell? ⟨c, o + k, none⟩ = some (.int .i64 z)) := fun W h1 h2 =>
        ⟨by omega, by omega, (World.cell?_of_block (h1 w.heap.size (by omega))).trans f0, (World.cell?_of_block (h1 c (by omega))).trans hcell⟩
      clear ff H1 E1 NZ
      have w1 : IntKind.i64.wrap (z + (V : Int)) = z + (V : Int) := by rw [IntKind.wrap_i64]; omega
      have w2 : IntKind.i64.wrap ((V : Int) - z) = (V : Int) - z := by rw [IntKind.wrap_i64]; omega
      have i1 : (0 : Int) ≤ z + (V : Int) := by omega
      have i2 : z + (V : Int) < (M : Int) := by have := HMI.out; omega
      have i3 : (z + (V : Int)).toNat = i := by omega
      have j1 : (0 : Int) ≤ (V : Int) - z := by omega
      have j2 : (V : Int) - z < (M : Int) := by have := HMI.out; omega
      have j3 : ((V : Int) - z).toNat = j := by omega
      have k3 : ((k : Int)).toNat = k := by omega
      clear hi hj
      generalize val (ts.take k) ((i : Int) - (V : Int)) = y1 at *
      generalize val (ts.take k) ((j : Int) - (V : Int)) = y2 at *
      go_wp2_with fail
      refine wp_region_held_drew (S := fun W => w.heap.size < W.heap.size ∧ vb < W.heap.size ∧ W.cell? ⟨w.heap.size, 0, none⟩ = some (.int .i64 (V : Int)) ∧ W.cell? ⟨c, o + k, none⟩ = some (.int .i64 z)) (by kernel_rfl) ?_ (fun hHeld => ?_)
      · exact KS.out _ (fun _ _ => rfl) (Nat.le_refl _)
      refine wpAnyH_take (i := 0) (oi := _) (v := ?_) rfl (by kernel_rfl) (by kernel_rfl) (by kernel_rfl) (fun _ _ _ h => h) (Or.inl ⟨by rfl, ?_⟩) (by assumption) ?_
      rotate_left
      · first | (intro w hSw; (try dsimp only at hSw); go_simp; done) | (intro w hSw; (try dsimp only at hSw); go_simp; with_reducible rfl)
      try simp only [Act.put, List.setIfInBounds_toArray, List.set_cons_zero, List.set_cons_succ, List.getElem_toArray, List.getElem_cons_zero]
      refine wpAnyH_take (i := 1) (oi := _) (v := ?_) rfl (by kernel_rfl) (by kernel_rfl) (by kernel_rfl) (fun _ _ _ h => h) (Or.inl ⟨by rfl, ?_⟩) (by assumption) ?_
      rotate_left
      · first | (intro w hSw; (try dsimp only at hSw); go_simp; done) | (intro w hSw; (try dsimp only at hSw); go_simp; with_reducible rfl)
      try simp only [Act.put, List.setIfInBounds_toArray, List.set_cons_zero, List.set_cons_succ, List.getElem_toArray, List.getElem_cons_succ, List.getElem_cons_zero]
      refine wpAnyH_take (i := 2) (oi := _) (v := ?_) rfl (by kernel_rfl) (by kernel_rfl) (by kernel_rfl) (fun _ _ _ h => h) (Or.inl ⟨by rfl, ?_⟩) (by assumption) ?_
      rotate_left
      · first | (intro w hSw; (try dsimp only at hSw); go_simp; done) | (intro w hSw; (try dsimp only at hSw); go_simp; with_reducible rfl)
      try simp only [Act.put, List.setIfInBounds_toArray, List.set_cons_zero, List.set_cons_succ, List.getElem_toArray, List.getElem_cons_succ, List.getElem_cons_zero]
      refine wpAnyH_take (i := 3) (oi := _) (v := ?_) rfl (by kernel_rfl) (by kernel_rfl) (by kernel_rfl) (fun _ _ _ h => h) (Or.inl ⟨by rfl, ?_⟩) (by assumption) ?_
      rotate_left
      · first | (intro w hSw; (try dsimp only at hSw); go_simp; done) | (intro w hSw; (try dsimp only at hSw); go_simp; with_reducible rfl)
      try simp only [Act.put, List.setIfInBounds_toArray, List.set_cons_zero, List.set_cons_succ, List.getElem_toArray, List.getElem_cons_succ, List.getElem_cons_zero]
      refine wpAnyH_take (i := 4) (oi := _) (v := ?_) rfl (by kernel_rfl) (by kernel_rfl) (by kernel_rfl) (fun _ _ _ h => h) (Or.inl ⟨by rfl, ?_⟩) (by assumption) ?_
      rotate_left
      · first | (intro w hSw; (try dsimp only at hSw); go_simp; done) | (intro w hSw; (try dsimp only at hSw); go_simp; with_reducible rfl)
      try simp only [Act.put, List.setIfInBounds_toArray, List.set_cons_zero, List.set_cons_succ, List.getElem_toArray, List.getElem_cons_succ, List.getElem_cons_zero]
      refine wpAnyH_take (i := 5) (oi := _) (v := ?_) rfl (by kernel_rfl) (by kernel_rfl) (by kernel_rfl) (fun _ _ _ h => h) (Or.inl ⟨by rfl, ?_⟩) (by assumption) ?_
      rotate_left
      · first | (intro w hSw; (try dsimp only at hSw); go_simp; done) | (intro w hSw; (try dsimp only at hSw); go_simp; with_reducible rfl)
      try simp only [Act.put, List.setIfInBounds_toArray, List.set_cons_zero, List.set_cons_succ, List.getElem_toArray, List.getElem_cons_succ, List.getElem_cons_zero]
      refine wpAnyH_take (i := 6) (oi := _) (v := ?_) rfl (by kernel_rfl) (by kernel_rfl) (by kernel_rfl) (fun _ _ _ h => h) (Or.inl ⟨by rfl, ?_⟩) (by assumption) ?_
      rotate_left
      · first | (intro w hSw; (try dsimp only at hSw); go_simp; done) | (intro w hSw; (try dsimp only at hSw); go_simp; with_reducible rfl)
      try simp only [Act.put, List.setIfInBounds_toArray, List.set_cons_zero, List.set_cons_succ, List.getElem_toArray, List.getElem_cons_succ, List.getElem_cons_zero]
      refine wpAnyH_take (i := 7) (oi := _) (v := ?_) rfl (by kernel_rfl) (by kernel_rfl) (by kernel_rfl) (fun _ _ _ h => h) (Or.inl ⟨by rfl, ?_⟩) (by assumption) ?_
      rotate_left
      · first | (intro w hSw; (try dsimp only at hSw); go_simp; done) | (intro w hSw; (try dsimp only at hSw); go_simp; with_reducible rfl)
      try simp only [Act.put, List.setIfInBounds_toArray, List.set_cons_zero, List.set_cons_succ, List.getElem_toArray, List.getElem_cons_succ, List.getElem_cons_zero]
      refine wpAnyH_take (i := 8) (oi := _) (v := ?_) rfl (by kernel_rfl) (by kernel_rfl) (by kernel_rfl) (fun _ _ _ h => h) (Or.inl ⟨by rfl, ?_⟩) (by assumption) ?_
      rotate_left
      · first | (intro w hSw; (try dsimp only at hSw); go_simp; done) | (intro w hSw; (try dsimp only at hSw); go_simp; with_reducible rfl)
      try simp only [Act.put, List.setIfInBounds_toArray, List.set_cons_zero, List.set_cons_succ, List.getElem_toArray, List.getElem_cons_succ, List.getElem_cons_zero]
      refine wpAnyH_ready (rs := [9]) (by kernel_rfl) (by simp) ?_
      refine AllReadyH.cons rfl (fun K hK => ?_) AllReadyH.nil
      go_simp
      refine hK.out _ _ ?_ (fun hHeld => ?_)
      · exact KS.out _ (fun k' hk' => heap_setCell_other _ ⟨vb, i, none⟩ k' _ hk') (by simp)
      clear hK K
      refine wpAnyH_done (by kernel_rfl) ?_ _
      have KS6 : Hid (∀ W : World, (∀ k', k' ≠ vb → W.heap[k']? = (wr.setCell ⟨vb, i, none⟩ (.int .i64 1)).heap[k']?) → (wr.setCell ⟨vb, i, none⟩ (.int .i64 1)).heap.size ≤ W.heap.size → w.heap.size < W.heap.size ∧ vb < W.heap.size ∧ W.cell? ⟨w.heap.size, 0, none⟩ = some (.int .i64 (V : Int)) ∧ W.cell? ⟨c, o + k, none⟩ = some (.int .i64 z)) := fun W h1 h2 => KS.out W (fun k' hk' => (h1 k' hk').trans (heap_setCell_other _ ⟨vb, i, none⟩ k' _ hk')) (by simp at h2; exact h2)
      have hcj6 : (wr.setCell ⟨vb, i, none⟩ (.int .i64 1)).cell? ⟨vb, j, none⟩ = some (.int .i64 y2) := (World.cell?_setCell_other _ _ _ _ (by simp)).trans hcj
      have hfj6 : (wr.setCell ⟨vb, i, none⟩ (.int .i64 1)).frozen? ⟨vb, j, none⟩ = false := (World.frozen?_setCell _ _ _ _).trans hfj
      have B6 := Lib.hid (show Below w.heap.size w (wr.setCell ⟨vb, i, none⟩ (.int .i64 1)) from BL.out.setCell (p := ⟨vb, i, none⟩) (by show w.heap.size ≤ vb; omega) _)
      have P6 := Lib.hid (show ∀ W, W.heap = ((wr.setCell ⟨vb, i, none⟩ (.int .i64 1)).drew.setCell ⟨vb, j, none⟩ (.int .i64 (-1))).heap → Below w.heap.size w W → SR w (V : Int) sl cs.length cap O vb V W ts (ts.take (k + 1)) (.slice s9 q k9) from fun W he hb => PUT.out W he hb)
      clear KS hcj hfj PUT BL hcell f0 f1 hci hfi
      generalize wr.setCell ⟨vb, i, none⟩ (.int .i64 1) = w6 at *
      obtain ⟨q1, q2, f0, hcell⟩ := KS6.out w6 (fun _ _ => rfl) (Nat.le_refl _)
      go_wp2_with fail
      refine wp_region_held_drew (S := fun W => w.heap.size < W.heap.size ∧ vb < W.heap.size ∧ W.cell? ⟨w.heap.size, 0, none⟩ = some (.int .i64 (V : Int)) ∧ W.cell? ⟨c, o + k, none⟩ = some (.int .i64 z)) (by kernel_rfl) ?_ (fun hHeld => ?_)
      · exact KS6.out _ (fun _ _ => rfl) (Nat.le_refl _)
      refine wpAnyH_take (i := 0) (oi := _) (v := ?_) rfl (by kernel_rfl) (by kernel_rfl) (by kernel_rfl) (fun _ _ _ h => h) (Or.inl ⟨by rfl, ?_⟩) (by assumption) ?_
      rotate_left
      · first | (intro w hSw; (try dsimp only at hSw); go_simp; done) | (intro w hSw; (try dsimp only at hSw); go_simp; with_reducible rfl)
      try simp only [Act.put, List.setIfInBounds_toArray, List.set_cons_zero, List.set_cons_succ, List.getElem_toArray, List.getElem_cons_zero]
      refine wpAnyH_take (i := 1) (oi := _) (v := ?_) rfl (by kernel_rfl) (by kernel_rfl) (by kernel_rfl) (fun _ _ _ h => h) (Or.inl ⟨by rfl, ?_⟩) (by assumption) ?_
      rotate_left
      · first | (intro w hSw; (try dsimp only at hSw); go_simp; done) | (intro w hSw; (try dsimp only at hSw); go_simp; with_reducible rfl)
      try simp only [Act.put, List.setIfInBounds_toArray, List.set_cons_zero, List.set_cons_succ, List.getElem_toArray, List.getElem_cons_succ, List.getElem_cons_zero]
      refine wpAnyH_take (i := 2) (oi := _) (v := ?_) rfl (by kernel_rfl) (by kernel_rfl) (by kernel_rfl) (fun _ _ _ h => h) (Or.inl ⟨by rfl, ?_⟩) (by assumption) ?_
      rotate_left
      · first | (intro w hSw; (try dsimp only at hSw); go_simp; done) | (intro w hSw; (try dsimp only at hSw); go_simp; with_reducible rfl)
      try simp only [Act.put, List.setIfInBounds_toArray, List.set_cons_zero, List.set_cons_succ, List.getElem_toArray, List.getElem_cons_succ, List.getElem_cons_zero]
      refine wpAnyH_take (i := 3) (oi := _) (v := ?_) rfl (by kernel_rfl) (by kernel_rfl) (by kernel_rfl) (fun _ _ _ h => h) (Or.inl ⟨by rfl, ?_⟩) (by assumption) ?_
      rotate_left
      · first | (intro w hSw; (try dsimp only at hSw); go_simp; done) | (intro w hSw; (try dsimp only at hSw); go_simp; with_reducible rfl)
      try simp only [Act.put, List.setIfInBounds_toArray, List.set_cons_zero, List.set_cons_succ, List.getElem_toArray, List.getElem_cons_succ, List.getElem_cons_zero]
      refine wpAnyH_take (i := 4) (oi := _) (v := ?_) rfl (by kernel_rfl) (by kernel_rfl) (by kernel_rfl) (fun _ _ _ h => h) (Or.inl ⟨by rfl, ?_⟩) (by assumption) ?_
      rotate_left
      · first | (intro w hSw; (try dsimp only at hSw); go_simp; done) | (intro w hSw; (try dsimp only at hSw); go_simp; with_reducible rfl)
      try simp only [Act.put, List.setIfInBounds_toArray, List.set_cons_zero, List.set_cons_succ, List.getElem_toArray, List.getElem_cons_succ, List.getElem_cons_zero]
      refine wpAnyH_take (i := 5) (oi := _) (v := ?_) rfl (by kernel_rfl) (by kernel_rfl) (by kernel_rfl) (fun _ _ _ h => h) (Or.inl ⟨by rfl, ?_⟩) (by assumption) ?_
      rotate_left
      · first | (intro w hSw; (try dsimp only at hSw); go_simp; done) | (intro w hSw; (try dsimp only at hSw); go_simp; with_reducible rfl)
      try simp only [Act.put, List.setIfInBounds_toArray, List.set_cons_zero, List.set_cons_succ, List.getElem_toArray, List.getElem_cons_succ, List.getElem_cons_zero]
      refine wpAnyH_take (i := 6) (oi := _) (v := ?_) rfl (by kernel_rfl) (by kernel_rfl) (by kernel_rfl) (fun _ _ _ h => h) (Or.inl ⟨by rfl, ?_⟩) (by assumption) ?_
      rotate_left
      · first | (intro w hSw; (try dsimp only at hSw); go_simp; done) | (intro w hSw; (try dsimp only at hSw); go_simp; with_reducible rfl)
      try simp only [Act.put, List.setIfInBounds_toArray, List.set_cons_zero, List.set_cons_succ, List.getElem_toArray, List.getElem_cons_succ, List.getElem_cons_zero]
      refine wpAnyH_take (i := 7) (oi := _) (v := ?_) rfl (by kernel_rfl) (by kernel_rfl) (by kernel_rfl) (fun _ _ _ h => h) (Or.inl ⟨by rfl, ?_⟩) (by assumption) ?_
      rotate_left
      · first | (intro w hSw; (try dsimp only at hSw); go_simp; done) | (intro w hSw; (try dsimp only at hSw); go_simp; with_reducible rfl)
      try simp only [Act.put, List.setIfInBounds_toArray, List.set_cons_zero, List.set_cons_succ, List.getElem_toArray, List.getElem_cons_succ, List.getElem_cons_zero]
      refine wpAnyH_take (i := 8) (oi := _) (v := ?_) rfl (by kernel_rfl) (by kernel_rfl) (by kernel_rfl) (fun _ _ _ h => h) (Or.inl ⟨by rfl, ?_⟩) (by assumption) ?_
      rotate_left
      · first | (intro w hSw; (try dsimp only at hSw); go_simp; done) | (intro w hSw; (try dsimp only at hSw); go_simp; with_reducible rfl)
      try simp only [Act.put, List.setIfInBounds_toArray, List.set_cons_zero, List.set_cons_succ, List.getElem_toArray, List.getElem_cons_succ, List.getElem_cons_zero]
      refine wpAnyH_ready (rs := [9]) (by kernel_rfl) (by simp) ?_
      refine AllReadyH.cons rfl (fun K hK => ?_) AllReadyH.nil
      go_simp
      refine hK.out _ _ ?_ (fun hHeld => ?_)
      · exact KS6.out _ (fun k' hk' => heap_setCell_other _ ⟨vb, j, none⟩ k' _ hk') (by simp)
      clear hK K
      refine wpAnyH_done (by kernel_rfl) ?_ _
      have S9 := Lib.hid (P6.out (w6.setCell ⟨vb, j, none⟩ (.int .i64 (-1))).drew.drew rfl (((B6.out.setCell (p := ⟨vb, j, none⟩) (by show w.heap.size ≤ vb; omega) _)).drew.drew))
      clear KS6 P6 B6
      go_wp2
      go_roundw
      case rel => exact ⟨k + 1, by go_num, by omega, S9⟩
      case measure => simp [intOf]; omega
    · have h1' : ¬ (k : Int) < (q : Int) := by omega
      have R1 : Hid (SR w (V : Int) sl cs.length cap O vb V wr ts ts (.slice s9 q k9)) := by
        have := H1.out
        rwa [TKE.out k (by omega)] at this
      clear H1 TKE TC TK1 APZ R0
      obtain ⟨fl, f0, f1, fv, fo, -⟩ := R1.out.facts
      go_wp2
      have HR0 := Lib.hid (show resF (bareC cs ++ bareC ds) (97 - ts.length) ts = uRun (bareC cs) (bareC ds) ts from rfl)
      have RFE := Lib.hid (show ∀ T, SpTo (V : Int) T T.length → (dueL T 0 (bareC cs ++ bareC ds)).2 = 0 → resF (bareC cs ++ bareC ds) (97 - T.length) T = (T, (dueL T 0 (bareC cs ++ bareC ds)).1) from fun T h1 h2 => resF_end _ _ _ (by have := h1.short (by omega : (V : Int) ≤ 96); omega) h2)
      have RFS := Lib.hid (show ∀ T, SpTo (V : Int) T T.length → ¬ (dueL T 0 (bareC cs ++ bareC ds)).2 = 0 → resF (bareC cs ++ bareC ds) (97 - T.length) T = resF (bareC cs ++ bareC ds) (97 - (T ++ [(dueL T 0 (bareC cs ++ bareC ds)).2]).length) (T ++ [(dueL T 0 (bareC cs ++ bareC ds)).2]) from fun T h1 h2 => by
        rw [resF_step _ _ _ (by have := h1.short (by omega : (V : Int) ≤ 96); omega) h2]
        congr 1
        simp; omega)
      have LIT := Lib.hid (show ∀ T, SpTo (V : Int) T T.length → ¬ (dueL T 0 (bareC cs ++ bareC ds)).2 = 0 → OkZ (V : Int) (dueL T 0 (bareC cs ++ bareC ds)).2 ∧ (dueL T 0 (bareC cs ++ bareC ds)).2 ∉ T ∧ -(dueL T 0 (bareC cs ++ bareC ds)).2 ∉ T ∧ SpTo (V : Int) (T ++ [(dueL T 0 (bareC cs ++ bareC ds)).2]) (T ++ [(dueL T 0 (bareC cs ++ bareC ds)).2]).length from fun T h1 h2 => by
        obtain ⟨g1, l, g2, g3⟩ := dueL_lit T (bareC cs ++ bareC ds) 0 h2
        rw [← bareC_add] at g2
        obtain ⟨r, hr, rfl⟩ := List.mem_map.1 g2
        have ok := hw r hr _ g3
        have nz := val_zero g1
        exact ⟨ok, nz.1, nz.2, h1.add ok nz.1 nz.2⟩)
      have SHO := Lib.hid (show ∀ T, SpTo (V : Int) T T.length → T.length ≤ 96 from fun T h => h.short (by omega))
      have DS := Lib.hid (show ∀ (T : List Int) (k : Nat) (r : LCl), (cs ++ ds)[k]? = some r → dueL T k ((bareC cs ++ bareC ds).drop k) = match unitOf T r.2 with
        | some z => ((k : Int), z)
        | none => dueL T (k + 1) ((bareC cs ++ bareC ds).drop (k + 1)) from fun T k r hk => by
        rw [← bareC_add]
        exact due_at _ T k r hk)
      have DE := Lib.hid (show ∀ T k, cs.length + ds.length ≤ k → dueL T k ((bareC cs ++ bareC ds).drop k) = (-1, 0) from fun T k hk => dueL_end T _ k (by rw [← bareC_add, bareC_length, List.length_append]; exact hk))
      have D0 := Lib.hid (show ∀ T, dueL T 0 (bareC cs ++ bareC ds) = dueL T 0 ((bareC cs ++ bareC ds).drop 0) from fun T => by simp)
      have CLA := Lib.hid (show ∀ k, k < cs.length → ∃ (r : LCl) (c o : Nat) (s : Option Addr) (kc : Nat), (cs ++ ds)[k]? = some r ∧ sl = some ⟨c, o, none⟩ ∧ r.1 = .slice s r.2.length kc ∧ (∀ W, Below w.heap.size w W → c < W.heap.size ∧ W.cell? ⟨c, o + k, none⟩ = some (.slice s r.2.length kc)) ∧ ∀ W T, SVAt W vb V T → Below w.heap.size w W → Calls Try.prog 58 #[.slice (some ⟨vb, 0, none⟩) M M, .slice s r.2.length kc, .int .i64 (V : Int)] W fun e w' => e = .returned (.tuple #[.int .i64 (uR (unitOf T r.2)).1, .bool (uR (unitOf T r.2)).2]) ∧ w' = W from fun k hk => by
        obtain ⟨c, o, e, cl, hc⟩ := hz.at hk
        obtain ⟨s, kc, e1, i1, l1⟩ := hz.each cs[k] (List.getElem_mem hk)
        refine ⟨cs[k], c, o, s, kc, by rw [List.getElem?_append_left hk, List.getElem?_eq_getElem hk], e, e1, fun W hW => ⟨by have := hW.size; omega, (hW.cell (p := ⟨c, o + k, none⟩) cl).trans ((hc k hk).trans (by rw [e1]))⟩, fun W T hv hW => ?_⟩
        rw [← HMN.out]
        exact su_any vb V T s kc cs[k].2 W hV hv l1 (hw _ (List.mem_append_left _ (List.getElem_mem hk))) (i1.below hW))
      have CLB := Lib.hid (show ∀ k, ¬ k < cs.length → k < cs.length + ds.length → ∃ (r : LCl) (c o : Nat) (s : Option Addr) (kc : Nat), (cs ++ ds)[k]? = some r ∧ sl2 = some ⟨c, o, none⟩ ∧ r.1 = .slice s r.2.length kc ∧ (∀ W, Below w.heap.size w W → c < W.heap.size ∧ W.cell? ⟨c, o + (k - cs.length), none⟩ = some (.slice s r.2.length kc)) ∧ ∀ W T, SVAt W vb V T → Below w.heap.size w W → Calls Try.prog 58 #[.slice (some ⟨vb, 0, none⟩) M M, .slice s r.2.length kc, .int .i64 (V : Int)] W fun e w' => e = .returned (.tuple #[.int .i64 (uR (unitOf T r.2)).1, .bool (uR (unitOf T r.2)).2]) ∧ w' = W from fun k hk hk2 => by
        have hk3 : k - cs.length < ds.length := by omega
        obtain ⟨c, o, e, cl, hc⟩ := hd.at hk3
        obtain ⟨s, kc, e1, i1, l1⟩ := hd.each ds[k - cs.length] (List.getElem_mem hk3)
        refine ⟨ds[k - cs.length], c, o, s, kc, by rw [List.getElem?_append_right (by omega), List.getElem?_eq_getElem hk3], e, e1, fun W hW => ⟨by have := hW.size; omega, (hW.cell (p := ⟨c, o + (k - cs.length), none⟩) cl).trans ((hc _ hk3).trans (by rw [e1]))⟩, fun W T hv hW => ?_⟩
        rw [← HMN.out]
        exact su_any vb V T s kc _ W hV hv l1 (hw _ (List.mem_append_right _ (List.getElem_mem hk3))) (i1.below hW))
      have NOB := Lib.hid (show ∀ W T v, SR w (V : Int) sl cs.length cap O vb V W T T v → v.ownBlock ≠ some O from fun W T v h e => by
        obtain ⟨g, cp, cur, hv, hb, hg', _⟩ := (h.own.2.resolve_left (fun ⟨e2, _⟩ => by rw [e2] at e; simp [Value.ownBlock] at e))
        rw [hv] at e
        have : g = O := by simpa [Value.ownBlock] using e
        subst this
        rw [h.out] at hg'
        simp at hg')
      have ST0 := Lib.hid (show SpTo (V : Int) ts ts.length by rw [HQ.out]; exact hs)
      unfold UPost
      have EQ0 : Hid (resF (bareC cs ++ bareC ds) (97 - ts.length) ts = uRun (bareC cs) (bareC ds) ts) := HR0
      clear hz hd ht hw hs HR0 fl f0 f1 fv fo
      generalize uRun (bareC cs) (bareC ds) ts = R at *
      generalize bareC cs ++ bareC ds = css at *
      generalize cs ++ ds = ls at *
      generalize cs.length = n at *
      generalize ds.length = m at *
      obtain ⟨wL, hwL⟩ : ∃ wL, wL = wr := ⟨_, rfl⟩
      rw [← hwL] at R1 ⊢
      clear hwL
      go_loopg [11] (400 - 2 * q) (fun g a wo => ∃ (ag : Bool) (T : List Int) (v : Value), a = .bool ag ∧ T.length ≤ 96 ∧ 2 * T.length + (cond ag 0 1) + g = 400 ∧ Hid (SR w (V : Int) sl n cap O vb V wo T T v) ∧ Hid (SpTo (V : Int) T T.length) ∧ Hid (ag = true → resF css (97 - T.length) T = R) ∧ Hid (ag = false → R = (T, -1)))
      case atStart => exact ⟨true, ts, _, rfl, by rw [HQ.out]; omega, by rw [HQ.out]; simp; omega, R1, ST0, fun _ => EQ0.out, fun h => by cases h⟩
      case round =>
        obtain ⟨ag, T, v, rfl, hT, hg, HSR, HS, HA, HB⟩ := hrel
        obtain ⟨vs, vc, rfl⟩ := own_v HSR.out.own
        obtain ⟨q2, hq2⟩ : ∃ q2, T.length = q2 := ⟨_, rfl⟩
        rw [hq2] at hT hg HSR
        have HQ2 := Lib.hid hq2
        clear hq2
        cases ag with
        | false =>
          have ER := Lib.hid (HB.out rfl)
          obtain ⟨rl, r0, r1, r2, rf0, rf1, rf2⟩ := HSR.out.box.facts
          obtain ⟨-, -, -, -, fo, g0, g1, g2, -, -⟩ := HSR.out.facts
          have P1 := Lib.hid (set3_below HSR.out.bel (show w.heap.size ≤ w.heap.size + 1 by omega) (.slice vs q2 vc) (.int .i64 (-1)) (.int .i64 0))
          have P2 := Lib.hid (own_mono (own_set3 HSR.out.own (b := w.heap.size + 1) (fun e => by have := (HSR.out.own.lt _ e).1; omega) (.slice vs q2 vc) (.int .i64 (-1)) (.int .i64 0)) (show w.heap.size ≤ w.heap.size + 2 by omega))
          unfold set3 at P1 P2
          rw [HQ2.out] at P2
          clear HSR HA HB CLA CLB DS DE RFE RFS LIT
          go_wp2
          refine bodyPost_ret (v := UV (.slice vs q2 vc) (-1) 0) (by simp [results, Try.results41, go_sem, r0, r1, r2]) rfl ?_
          exact ⟨_, by rw [ER.out], by rw [ER.out]; show World.ownsRow _ _ _ _ _ T.length _; rw [HQ2.out]; exact P2.out, P1.out⟩
        | true =>
          have HR := Lib.hid (HA.out rfl)
          simp only [cond_true] at hg
          clear HA HB
          have hnm : (n : Int) + (m : Int) ≤ 200000 := by omega
          have hm0 : (0 : Int) ≤ (m : Int) := by omega
          have hn0 : (0 : Int) ≤ (n : Int) := by omega
          go_wp2_with fail
          go_loopw [11, 12] (fun a i wi => ∃ (ag2 : Bool) (k : Nat) (T2 : List Int) (v2 : Value), a = .bool ag2 ∧ i = .int .i64 k ∧ k ≤ n + m ∧ Hid (SR w (V : Int) sl n cap O vb V wi T2 T2 v2) ∧ Hid ((ag2 = false ∧ T2 = T ∧ v2 = .slice vs q2 vc ∧ dueL T 0 css = dueL T k (css.drop k)) ∨ (ag2 = true ∧ ¬ (dueL T 0 css).2 = 0 ∧ T2 = T ++ [(dueL T 0 css).2]))) (fun _ i _ => n + m + 1 - (intOf i).toNat)
          case atStart => exact ⟨false, 0, T, _, rfl, rfl, Nat.zero_le _, HSR, .inl ⟨rfl, rfl, rfl, D0.out T⟩⟩
          case round =>
            obtain ⟨ag2, k, T2, v2, rfl, rfl, hk, HW, HP⟩ := hrel
            have hk0 : (0 : Int) ≤ (k : Int) := by omega
            cases ag2 with
            | true =>
              have HP2 : Hid (¬ (dueL T 0 css).2 = 0 ∧ T2 = T ++ [(dueL T 0 css).2]) := by
                rcases HP.out with ⟨h, _⟩ | ⟨_, h⟩
                · cases h
                · exact h
              have E1 := Lib.hid (RFS.out T HS.out HP2.out.1)
              have E2 := Lib.hid (LIT.out T HS.out HP2.out.1)
              have SP2 : Hid (SpTo (V : Int) T2 T2.length) := by rw [HP2.out.2]; exact E2.out.2.2.2
              have RS2 : Hid (resF css (97 - T2.length) T2 = R) := by
                show _ = _
                rw [HP2.out.2, ← E1.out]; exact HR.out
              have L2 := Lib.hid (show T2.length = q2 + 1 by rw [HP2.out.2, List.length_append, HQ2.out]; rfl)
              have L3 := Lib.hid (show T2.length ≤ 96 from SHO.out T2 SP2.out)
              clear HP HP2 E1 E2 CLA CLB DS DE RFE RFS LIT
              by_cases hkl : (k : Int) < (n : Int) + (m : Int)
              · go_wp2
                go_roundg (gk - 2)
                case measure => have := L2.out; have := L3.out; omega
                case rel => exact ⟨true, T2, v2, rfl, L3.out, by rw [L2.out]; simp at hg ⊢; have := L2.out; have := L3.out; omega, HW, SP2, fun _ => RS2.out, fun h => by cases h⟩
              · go_wp2
                go_roundg (gk - 2)
                case measure => have := L2.out; have := L3.out; omega
                case rel => exact ⟨true, T2, v2, rfl, L3.out, by rw [L2.out]; simp at hg ⊢; have := L2.out; have := L3.out; omega, HW, SP2, fun _ => RS2.out, fun h => by cases h⟩
            | false =>
              obtain ⟨e1, e2, HK⟩ : T2 = T ∧ v2 = .slice vs q2 vc ∧ Hid (dueL T 0 css = dueL T k (css.drop k)) := by
                rcases HP.out with ⟨_, h1, h2, h3⟩ | ⟨h, _⟩
                · exact ⟨h1, h2, h3⟩
                · cases h
              subst e1
              subst e2
              clear HP
              by_cases hkl : k < n + m
              · have hkl' : (k : Int) < (n : Int) + (m : Int) := by omega
                have SK := Lib.hid (HW.out.keep (bA0 wr (.cells #[] 2)))
                by_cases hkn : k < n
                · have hkn' : (k : Int) < (n : Int) := by omega
                  obtain ⟨r, c, o, s, kc, hr, rfl, hr1, hcell, CU0⟩ := CLA.out k hkn
                  have DR := Lib.hid (DS.out T2 k r hr)
                  obtain ⟨hc1, hc2⟩ := hcell _ SK.out.bel
                  have CU := Lib.hid (CU0 _ T2 SK.out.vals SK.out.bel)
                  obtain ⟨fl, f0, f1, -⟩ := SK.out.facts
                  clear hcell CU0 hr hr1 HW CLA CLB DS DE
                  go_wp2_with fail
                  generalize wr.alloc (.cells #[] 2) = wz at *
                  cases hU : unitOf T2 r.2 with
                  | none =>
                    have DK := Lib.hid (show dueL T2 0 css = dueL T2 (k + 1) (css.drop (k + 1)) by rw [HK.out, DR.out, hU])
                    rw [hU] at CU
                    clear hU DR HK
                    simp only [uR] at CU
                    refine CU.out.mono ?_
                    rintro e wq ⟨rfl, rfl⟩
                    go_wp2
                    go_roundw
                    case rel => exact ⟨false, k + 1, T2, _, rfl, by go_num, by omega, SK, .inl ⟨rfl, rfl, rfl, DK.out⟩⟩
                    case measure => simp [intOf]; omega
                  | some z =>
                    rw [hU] at CU
                    simp only [uR] at CU
                    have DK := Lib.hid (show dueL T2 0 css = ((k : Int), z) by rw [HK.out, DR.out, hU])
                    clear hU DR HK
                    by_cases z0 : z = 0
                    · subst z0
                      have RE := Lib.hid (RFE.out T2 HS.out (by rw [DK.out]))
                      have ER := Lib.hid (show R = (T2, (k : Int)) by rw [← HR.out, RE.out, DK.out])
                      rw [beq_self_eq_true] at CU
                      have hbO := SK.out.hO
                      obtain ⟨-, -, -, -, fo, g0, g1, g2, gf, -⟩ := SK.out.facts
                      have gf0 := gf 0
                      have gf1 := gf 1
                      have gf2 := gf 2
                      have XB : BoxU (wz.setCell ⟨O, 1, none⟩ (.int .i64 (k : Int))) (w.heap.size + 1) := (heap_setCell_other _ ⟨O, 1, none⟩ _ _ (by show w.heap.size + 1 ≠ O; omega)).trans SK.out.box
                      have P1 := Lib.hid (set3_below (SK.out.bel.setCell (p := ⟨O, 1, none⟩) (by show w.heap.size ≤ O; omega) (.int .i64 (k : Int))) (show w.heap.size ≤ w.heap.size + 1 by omega) (.slice vs q2 vc) (.int .i64 (k : Int)) (.int .i64 0))
                      have P2 := Lib.hid (own_mono (own_set3 (own_set SK.out.own (b := O) (fun e => NOB.out wz _ _ SK.out e) 1 (.int .i64 (k : Int))) (b := w.heap.size + 1) (fun e => by have := (SK.out.own.lt _ e).1; omega) (.slice vs q2 vc) (.int .i64 (k : Int)) (.int .i64 0)) (show w.heap.size ≤ w.heap.size + 2 by omega))
                      obtain ⟨xl, x0, x1, x2, xf0, xf1, xf2⟩ := XB.facts
                      have y0 : (wz.setCell ⟨O, 1, none⟩ (.int .i64 (k : Int))).cell? ⟨O, 0, none⟩ = some (.slice vs q2 vc) := (World.cell?_setCell_other _ _ _ _ (by simp)).trans g0
                      have y1 : (wz.setCell ⟨O, 1, none⟩ (.int .i64 (k : Int))).cell? ⟨O, 1, none⟩ = some (.int .i64 (k : Int)) := World.cell?_setCell_same _ _ _ g1
                      have y2 : (wz.setCell ⟨O, 1, none⟩ (.int .i64 (k : Int))).cell? ⟨O, 2, none⟩ = some (.int .i64 0) := (World.cell?_setCell_other _ _ _ _ (by simp)).trans g2
                      have yl : O < (wz.setCell ⟨O, 1, none⟩ (.int .i64 (k : Int))).heap.size := by simpa using fo
                      unfold set3 at P1 P2
                      rw [HQ2.out] at P2
                      clear gf SK RE DK XB HS RFE RFS LIT
                      refine CU.out.mono ?_
                      rintro e wq ⟨rfl, rfl⟩
                      go_wp2
                      refine bodyPost_ret (v := UV (.slice vs q2 vc) (k : Int) 0) (by simp [results, Try.results41, go_sem, x0, x1, x2]) rfl ?_
                      exact ⟨_, by rw [ER.out], by rw [ER.out]; show World.ownsRow _ _ _ _ _ T2.length _; rw [HQ2.out]; exact P2.out, P1.out⟩
                    · have E2 : Hid (OkZ (V : Int) z ∧ z ∉ T2 ∧ -z ∉ T2) := by
                        have := LIT.out T2 HS.out (by rw [DK.out]; exact z0)
                        rw [DK.out] at this
                        exact ⟨this.1, this.2.1, this.2.2.1⟩
                      have EP := Lib.hid (show ¬ (dueL T2 0 css).2 = 0 ∧ T2 ++ [z] = T2 ++ [(dueL T2 0 css).2] by rw [DK.out]; exact ⟨z0, rfl⟩)
                      have z0' : (z == 0) = false := by simpa using z0
                      rw [z0'] at CU
                      obtain ⟨oz1, oz2, oz3⟩ := E2.out.1
                      obtain ⟨i, hi⟩ : ∃ i : Nat, (i : Int) = z + (V : Int) := ⟨(z + V).toNat, by omega⟩
                      obtain ⟨j, hj⟩ : ∃ j : Nat, (j : Int) = (V : Int) - z := ⟨((V : Int) - z).toNat, by omega⟩
                      have hij : i ≠ j := by omega
                      have hbO := SK.out.hO
                      have hbV := SK.out.hV
                      have hbOV := SK.out.hOV
                      obtain ⟨-, -, -, fv, fo, g0, -, -, -, -⟩ := SK.out.facts
                      have SA := Lib.hid (SK.out.keep (bA0 wz (.cells #[.int .i64 z] 2)))
                      have OA := Lib.hid SA.out.own
                      rw [HQ2.out] at OA
                      have hszz := SK.out.bel.size
                      have EV := Lib.hid (show valsZ T2 ++ [.int .i64 z] = valsZ (T2 ++ [z]) by simp [valsZ])
                      have NB := Lib.hid (NOB.out wz _ _ SK.out)
                      have i1 : (0 : Int) ≤ z + (V : Int) := by omega
                      have i2 : z + (V : Int) < (M : Int) := by have := HMI.out; omega
                      have i3 : (z + (V : Int)).toNat = i := by omega
                      have j1 : (0 : Int) ≤ (V : Int) - z := by omega
                      have j2 : (V : Int) - z < (M : Int) := by have := HMI.out; omega
                      have j3 : ((V : Int) - z).toNat = j := by omega
                      have a1 : z + (V : Int) ≤ 9223372036854775807 := by omega
                      have a2 : -9223372036854775808 ≤ z + (V : Int) := by omega
                      have a3 : (V : Int) - z ≤ 9223372036854775807 := by omega
                      have a4 : -9223372036854775808 ≤ (V : Int) - z := by omega
                      have SKH := Lib.hid (And.intro hi hj)
                      clear hi hj DK RFE RFS LIT HS
                      refine CU.out.mono ?_
                      rintro e wq ⟨rfl, rfl⟩
                      go_wp2_with (first | (at_builtin; refine wpList_append_lies _ rfl (.tmp 95) (.tmp 97) 27 rfl (w.heap.size + 2) 2 i0 (.int .i64 0) 1 8 Try.underlying27 hi0 hz0 hz1 hz2 rfl (by decide) _ _ _ rfl OA.out ⟨wq.heap.size, 0, none⟩ 1 1 [.int .i64 z] rfl rfl (cell_one_new _ _ _) (by intro u hu; simp at hu; subst hu; rfl) (by decide) (by unfold maxLen; omega) (by omega) (by simp; omega) (wq.heap.size + 1) (by simp) ?_))
                      intro g9 cap9 w9 own9 grow9 hg9 hlt9
                      rw [EV.out] at own9
                      have L9 := Lib.hid (show (T2 ++ [z]).length = q2 + 1 by rw [List.length_append, HQ2.out]; rfl)
                      have S1 := Lib.hid (SA.out.more (T' := T2 ++ [z]) grow9 (by rw [L9.out]; exact own9) (fun j hj => by
                        have e : j = g9 := by simp [Value.ownBlock] at hj; exact hj.symm
                        rcases hg9 with h | h
                        · exact .inl (by rw [h, e])
                        · exact .inr (by simp; omega)))
                      have S2 := Lib.hid (S1.out.put z i j SKH.out.1 SKH.out.2 E2.out.2.1 E2.out.2.2 oz1)
                      have bO : w9.heap[O]? = (wq.alloc (.cells #[.int .i64 z] 2)).heap[O]? := grow9.block O (by simp; omega) (fun e => NB.out e.symm)
                      have o0 : w9.cell? ⟨O, 0, none⟩ = some (.slice vs q2 vc) := (World.cell?_of_block bO).trans SA.out.facts.2.2.2.2.2.1
                      have o1 : w9.frozen? ⟨O, 0, none⟩ = false := (World.frozen?_of_block bO).trans (SA.out.facts.2.2.2.2.2.2.2.2.1 0)
                      have o2 : O < w9.heap.size := by have := grow9.size; simp at this; omega
                      obtain ⟨s1l, s1a, s1b, s1v, s1o, -, -, -, -, s1f⟩ := S1.out.facts
                      have s1i := S1.out.vals.cell i (by have := SKH.out.1; omega)
                      have s1j := S1.out.vals.cell j (by have := SKH.out.2; omega)
                      have s1fi := s1f i
                      have s1fj := s1f j
                      clear own9 grow9 hg9 hlt9 SA OA bO SK s1f
                      generalize val T2 ((i : Int) - (V : Int)) = y1 at *
                      generalize val T2 ((j : Int) - (V : Int)) = y2 at *
                      have x1a : ((w9.setCell ⟨O, 0, none⟩ (.slice (some ⟨g9, 0, none⟩) (q2 + 1) cap9)).setCell ⟨vb, i, none⟩ (.int .i64 1)).cell? ⟨w.heap.size, 0, none⟩ = some (.int .i64 (V : Int)) := (World.cell?_setCell_other _ _ _ _ (by simp)).trans s1a
                      have x1j : ((w9.setCell ⟨O, 0, none⟩ (.slice (some ⟨g9, 0, none⟩) (q2 + 1) cap9)).setCell ⟨vb, i, none⟩ (.int .i64 1)).cell? ⟨vb, j, none⟩ = some (.int .i64 y2) := (World.cell?_setCell_other _ _ _ _ (by simp)).trans s1j
                      have x1f : ((w9.setCell ⟨O, 0, none⟩ (.slice (some ⟨g9, 0, none⟩) (q2 + 1) cap9)).setCell ⟨vb, i, none⟩ (.int .i64 1)).frozen? ⟨vb, j, none⟩ = false := (World.frozen?_setCell _ _ _ _).trans s1fj
                      have x1l : w.heap.size < ((w9.setCell ⟨O, 0, none⟩ (.slice (some ⟨g9, 0, none⟩) (q2 + 1) cap9)).setCell ⟨vb, i, none⟩ (.int .i64 1)).heap.size := by simpa using s1l
                      go_wp2
                      go_roundw
                      case rel => exact ⟨true, k + 1, T2 ++ [z], _, rfl, by go_num, by omega, S2, .inr ⟨rfl, EP.out⟩⟩
                      case measure => simp [intOf]; omega
                · have hkn' : ¬ (k : Int) < (n : Int) := by omega
                  have kn1 : ((k : Int) - (n : Int)).toNat = k - n := by omega
                  have kn2 : (0 : Int) ≤ (k : Int) - (n : Int) := by omega
                  have kn3 : (k : Int) - (n : Int) < (m : Int) := by omega
                  obtain ⟨r, c, o, s, kc, hr, rfl, hr1, hcell, CU0⟩ := CLB.out k hkn hkl
                  have DR := Lib.hid (DS.out T2 k r hr)
                  obtain ⟨hc1, hc2⟩ := hcell _ SK.out.bel
                  have CU := Lib.hid (CU0 _ T2 SK.out.vals SK.out.bel)
                  obtain ⟨fl, f0, f1, -⟩ := SK.out.facts
                  clear hcell CU0 hr hr1 HW CLA CLB DS DE
                  go_wp2_with fail
                  generalize wr.alloc (.cells #[] 2) = wz at *
                  cases hU : unitOf T2 r.2 with
                  | none =>
                    have DK := Lib.hid (show dueL T2 0 css = dueL T2 (k + 1) (css.drop (k + 1)) by rw [HK.out, DR.out, hU])
                    rw [hU] at CU
                    clear hU DR HK
                    simp only [uR] at CU
                    refine CU.out.mono ?_
                    rintro e wq ⟨rfl, rfl⟩
                    go_wp2
                    go_roundw
                    case rel => exact ⟨false, k + 1, T2, _, rfl, by go_num, by omega, SK, .inl ⟨rfl, rfl, rfl, DK.out⟩⟩
                    case measure => simp [intOf]; omega
                  | some z =>
                    rw [hU] at CU
                    simp only [uR] at CU
                    have DK := Lib.hid (show dueL T2 0 css = ((k : Int), z) by rw [HK.out, DR.out, hU])
                    clear hU DR HK
                    by_cases z0 : z = 0
                    · subst z0
                      have RE := Lib.hid (RFE.out T2 HS.out (by rw [DK.out]))
                      have ER := Lib.hid (show R = (T2, (k : Int)) by rw [← HR.out, RE.out, DK.out])
                      rw [beq_self_eq_true] at CU
                      have hbO := SK.out.hO
                      obtain ⟨-, -, -, -, fo, g0, g1, g2, gf, -⟩ := SK.out.facts
                      have gf0 := gf 0
                      have gf1 := gf 1
                      have gf2 := gf 2
                      have XB : BoxU (wz.setCell ⟨O, 1, none⟩ (.int .i64 (k : Int))) (w.heap.size + 1) := (heap_setCell_other _ ⟨O, 1, none⟩ _ _ (by show w.heap.size + 1 ≠ O; omega)).trans SK.out.box
                      have P1 := Lib.hid (set3_below (SK.out.bel.setCell (p := ⟨O, 1, none⟩) (by show w.heap.size ≤ O; omega) (.int .i64 (k : Int))) (show w.heap.size ≤ w.heap.size + 1 by omega) (.slice vs q2 vc) (.int .i64 (k : Int)) (.int .i64 0))
                      have P2 := Lib.hid (own_mono (own_set3 (own_set SK.out.own (b := O) (fun e => NOB.out wz _ _ SK.out e) 1 (.int .i64 (k : Int))) (b := w.heap.size + 1) (fun e => by have := (SK.out.own.lt _ e).1; omega) (.slice vs q2 vc) (.int .i64 (k : Int)) (.int .i64 0)) (show w.heap.size ≤ w.heap.size + 2 by omega))
                      obtain ⟨xl, x0, x1, x2, xf0, xf1, xf2⟩ := XB.facts
                      have y0 : (wz.setCell ⟨O, 1, none⟩ (.int .i64 (k : Int))).cell? ⟨O, 0, none⟩ = some (.slice vs q2 vc) := (World.cell?_setCell_other _ _ _ _ (by simp)).trans g0
                      have y1 : (wz.setCell ⟨O, 1, none⟩ (.int .i64 (k : Int))).cell? ⟨O, 1, none⟩ = some (.int .i64 (k : Int)) := World.cell?_setCell_same _ _ _ g1
                      have y2 : (wz.setCell ⟨O, 1, none⟩ (.int .i64 (k : Int))).cell? ⟨O, 2, none⟩ = some (.int .i64 0) := (World.cell?_setCell_other _ _ _ _ (by simp)).trans g2
                      have yl : O < (wz.setCell ⟨O, 1, none⟩ (.int .i64 (k : Int))).heap.size := by simpa using fo
                      unfold set3 at P1 P2
                      rw [HQ2.out] at P2
                      clear gf SK RE DK XB HS RFE RFS LIT
                      refine CU.out.mono ?_
                      rintro e wq ⟨rfl, rfl⟩
                      go_wp2
                      refine bodyPost_ret (v := UV (.slice vs q2 vc) (k : Int) 0) (by simp [results, Try.results41, go_sem, x0, x1, x2]) rfl ?_
                      exact ⟨_, by rw [ER.out], by rw [ER.out]; show World.ownsRow _ _ _ _ _ T2.length _; rw [HQ2.out]; exact P2.out, P1.out⟩
                    · have E2 : Hid (OkZ (V : Int) z ∧ z ∉ T2 ∧ -z ∉ T2) := by
                        have := LIT.out T2 HS.out (by rw [DK.out]; exact z0)
                        rw [DK.out] at this
                        exact ⟨this.1, this.2.1, this.2.2.1⟩
                      have EP := Lib.hid (show ¬ (dueL T2 0 css).2 = 0 ∧ T2 ++ [z] = T2 ++ [(dueL T2 0 css).2] by rw [DK.out]; exact ⟨z0, rfl⟩)
                      have z0' : (z == 0) = false := by simpa using z0
                      rw [z0'] at CU
                      obtain ⟨oz1, oz2, oz3⟩ := E2.out.1
                      obtain ⟨i, hi⟩ : ∃ i : Nat, (i : Int) = z + (V : Int) := ⟨(z + V).toNat, by omega⟩
                      obtain ⟨j, hj⟩ : ∃ j : Nat, (j : Int) = (V : Int) - z := ⟨((V : Int) - z).toNat, by omega⟩
                      have hij : i ≠ j := by omega
                      have hbO := SK.out.hO
                      have hbV := SK.out.hV
                      have hbOV := SK.out.hOV
                      obtain ⟨-, -, -, fv, fo, g0, -, -, -, -⟩ := SK.out.facts
                      have SA := Lib.hid (SK.out.keep (bA0 wz (.cells #[.int .i64 z] 2)))
                      have OA := Lib.hid SA.out.own
                      rw [HQ2.out] at OA
                      have hszz := SK.out.bel.size
                      have EV := Lib.hid (show valsZ T2 ++ [.int .i64 z] = valsZ (T2 ++ [z]) by simp [valsZ])
                      have NB := Lib.hid (NOB.out wz _ _ SK.out)
                      have i1 : (0 : Int) ≤ z + (V : Int) := by omega
                      have i2 : z + (V : Int) < (M : Int) := by have := HMI.out; omega
                      have i3 : (z + (V : Int)).toNat = i := by omega
                      have j1 : (0 : Int) ≤ (V : Int) - z := by omega
                      have j2 : (V : Int) - z < (M : Int) := by have := HMI.out; omega
                      have j3 : ((V : Int) - z).toNat = j := by omega
                      have a1 : z + (V : Int) ≤ 9223372036854775807 := by omega
                      have a2 : -9223372036854775808 ≤ z + (V : Int) := by omega
                      have a3 : (V : Int) - z ≤ 9223372036854775807 := by omega
                      have a4 : -9223372036854775808 ≤ (V : Int) - z := by omega
                      have SKH := Lib.hid (And.intro hi hj)
                      clear hi hj DK RFE RFS LIT HS
                      refine CU.out.mono ?_
                      rintro e wq ⟨rfl, rfl⟩
                      go_wp2_with (first | (at_builtin; refine wpList_append_lies _ rfl (.tmp 95) (.tmp 97) 27 rfl (w.heap.size + 2) 2 i0 (.int .i64 0) 1 8 Try.underlying27 hi0 hz0 hz1 hz2 rfl (by decide) _ _ _ rfl OA.out ⟨wq.heap.size, 0, none⟩ 1 1 [.int .i64 z] rfl rfl (cell_one_new _ _ _) (by intro u hu; simp at hu; subst hu; rfl) (by decide) (by unfold maxLen; omega) (by omega) (by simp; omega) (wq.heap.size + 1) (by simp) ?_))
                      intro g9 cap9 w9 own9 grow9 hg9 hlt9
                      rw [EV.out] at own9
                      have L9 := Lib.hid (show (T2 ++ [z]).length = q2 + 1 by rw [List.length_append, HQ2.out]; rfl)
                      have S1 := Lib.hid (SA.out.more (T' := T2 ++ [z]) grow9 (by rw [L9.out]; exact own9) (fun j hj => by
                        have e : j = g9 := by simp [Value.ownBlock] at hj; exact hj.symm
                        rcases hg9 with h | h
                        · exact .inl (by rw [h, e])
                        · exact .inr (by simp; omega)))
                      have S2 := Lib.hid (S1.out.put z i j SKH.out.1 SKH.out.2 E2.out.2.1 E2.out.2.2 oz1)
                      have bO : w9.heap[O]? = (wq.alloc (.cells #[.int .i64 z] 2)).heap[O]? := grow9.block O (by simp; omega) (fun e => NB.out e.symm)
                      have o0 : w9.cell? ⟨O, 0, none⟩ = some (.slice vs q2 vc) := (World.cell?_of_block bO).trans SA.out.facts.2.2.2.2.2.1
                      have o1 : w9.frozen? ⟨O, 0, none⟩ = false := (World.frozen?_of_block bO).trans (SA.out.facts.2.2.2.2.2.2.2.2.1 0)
                      have o2 : O < w9.heap.size := by have := grow9.size; simp at this; omega
                      obtain ⟨s1l, s1a, s1b, s1v, s1o, -, -, -, -, s1f⟩ := S1.out.facts
                      have s1i := S1.out.vals.cell i (by have := SKH.out.1; omega)
                      have s1j := S1.out.vals.cell j (by have := SKH.out.2; omega)
                      have s1fi := s1f i
                      have s1fj := s1f j
                      clear own9 grow9 hg9 hlt9 SA OA bO SK s1f
                      generalize val T2 ((i : Int) - (V : Int)) = y1 at *
                      generalize val T2 ((j : Int) - (V : Int)) = y2 at *
                      have x1a : ((w9.setCell ⟨O, 0, none⟩ (.slice (some ⟨g9, 0, none⟩) (q2 + 1) cap9)).setCell ⟨vb, i, none⟩ (.int .i64 1)).cell? ⟨w.heap.size, 0, none⟩ = some (.int .i64 (V : Int)) := (World.cell?_setCell_other _ _ _ _ (by simp)).trans s1a
                      have x1j : ((w9.setCell ⟨O, 0, none⟩ (.slice (some ⟨g9, 0, none⟩) (q2 + 1) cap9)).setCell ⟨vb, i, none⟩ (.int .i64 1)).cell? ⟨vb, j, none⟩ = some (.int .i64 y2) := (World.cell?_setCell_other _ _ _ _ (by simp)).trans s1j
                      have x1f : ((w9.setCell ⟨O, 0, none⟩ (.slice (some ⟨g9, 0, none⟩) (q2 + 1) cap9)).setCell ⟨vb, i, none⟩ (.int .i64 1)).frozen? ⟨vb, j, none⟩ = false := (World.frozen?_setCell _ _ _ _).trans s1fj
                      have x1l : w.heap.size < ((w9.setCell ⟨O, 0, none⟩ (.slice (some ⟨g9, 0, none⟩) (q2 + 1) cap9)).setCell ⟨vb, i, none⟩ (.int .i64 1)).heap.size := by simpa using s1l
                      go_wp2
                      go_roundw
                      case rel => exact ⟨true, k + 1, T2 ++ [z], _, rfl, by go_num, by omega, S2, .inr ⟨rfl, EP.out⟩⟩
                      case measure => simp [intOf]; omega
              · have hkl' : ¬ (k : Int) < (n : Int) + (m : Int) := by omega
                have E1 := Lib.hid (show dueL T2 0 css = (-1, 0) by rw [HK.out]; exact DE.out T2 k (by omega))
                have ER := Lib.hid (show R = (T2, -1) by rw [← HR.out, RFE.out T2 HS.out (by rw [E1.out]), E1.out])
                clear HK E1 CLA CLB DS DE RFE RFS LIT
                go_wp2
                go_roundg (gk - 1)
                case measure => omega
                case rel => exact ⟨false, T2, _, rfl, by rw [HQ2.out]; exact hT, by rw [HQ2.out]; simp at hg ⊢; omega, HW, HS, (fun h => by cases h), fun _ => ER.out⟩

end Go.Proofs.Ytaogkdhloogmhaa
namespace Go.Proofs.Ytaogkdhloogmhaa
open Go.RowKit
set_option linter.unusedVariables false

/-- A search under way, as lists. -/
structure RunJ (css : List (List Int)) (V bud : Nat) (R : Res) (st : Nat) (L : List (List Int)) (D : List Int) : Prop where
  ok : SOk css V L D
  few : L.length ≤ st
  le : st ≤ bud
  run : solF css V (bud - st) st L D = R
section
variable {css : List (List Int)} {V bud : Nat} {R : Res} {st : Nat} {L : List (List Int)} {D : List Int}
theorem RunJ.stop (h : RunJ css V bud R st L D) (e : st = bud) : R = (3, [], L, (st : Int)) := by
  rw [← h.run]; exact solF_stop (by omega)
theorem RunJ.yes (h : RunJ css V bud R st L D) (e : ¬ st = bud) (h1 : (uRun css L D).2 = -1) (h2 : opn (uRun css L D).1 V 1 = 0) : R = (1, trL (uRun css L D).1 V, L, (st : Int) + 1) := by
  have := h.le
  rw [← h.run]; exact solF_yes (by omega) h1 h2
theorem RunJ.push (h : RunJ css V bud R st L D) (e : ¬ st = bud) (h1 : (uRun css L D).2 = -1) (h2 : ¬ opn (uRun css L D).1 V 1 = 0) : RunJ css V bud R (st + 1) L (D ++ [((opn (uRun css L D).1 V 1 : Nat) : Int)]) := by
  have hl := h.le
  have hf := h.few
  refine ⟨h.ok.push h2, by omega, by omega, ?_⟩
  rw [← h.run, solF_push (n := bud - st) (by omega) h1 h2, show bud - st - 1 = bud - (st + 1) by omega]
  rfl
theorem RunJ.no (h : RunJ css V bud R st L D) (e : ¬ st = bud) (h1 : ¬ (uRun css L D).2 = -1) (h2 : D.length = 0) : R = (2, [], L ++ [negL D], (st : Int) + 1) := by
  have := h.le
  rw [← h.run]; exact solF_no (by omega) h1 h2
theorem RunJ.pop (h : RunJ css V bud R st L D) (e : ¬ st = bud) (h1 : ¬ (uRun css L D).2 = -1) (h2 : ¬ D.length = 0) : RunJ css V bud R (st + 1) (L ++ [negL D]) D.dropLast := by
  have hl := h.le
  have hf := h.few
  refine ⟨h.ok.learn, by simp; omega, by omega, ?_⟩
  rw [← h.run, solF_pop (n := bud - st) (by omega) h1 h2, show bud - st - 1 = bud - (st + 1) by omega]
  rfl
theorem RunJ.sp (h : RunJ css V bud R st L D) : SpTo (V : Int) (uRun css L D).1 (uRun css L D).1.length := resF_sp _ h.ok.all _ _ h.ok.ds
end

/-- The model's search, how far it has come. -/
structure SS (w : World) (O : Nat) (V : Int) (sl : Option Addr) (n cap : Nat) (x : Int) (T : List Int) (ls : List LCl) (D : List Int) (vt vl vd : Value) (st : Int) (W : World) : Prop where
  cnf : CnfAt W w.heap.size V sl n cap
  box : BoxO W (w.heap.size + 1)
  out : W.heap[O]? = some (.cells #[.int .i64 x, vt, vl, .int .i64 st, .int .i64 0] 48)
  tr : W.ownsRow w.heap.size 2 1 vt T.length (valsZ T)
  ol : OwC W w.heap.size vl ls
  od : W.ownsRow w.heap.size 2 1 vd D.length (valsZ D)
  da : ∀ r ∈ ls, ∀ j, r.1.ownBlock = some j → vd.ownBlock ≠ some j
  ta : ∀ r ∈ ls, ∀ j, r.1.ownBlock = some j → vt.ownBlock ≠ some j
  bl : Below w.heap.size w W
  hO : w.heap.size + 1 < O
section
variable {w : World} {O : Nat} {V : Int} {sl : Option Addr} {n cap : Nat} {x : Int} {T : List Int} {ls : List LCl} {D : List Int} {vt vl vd : Value} {st : Int} {W W' : World}
theorem SS.below (h : SS w O V sl n cap x T ls D vt vl vd st W) (hb : Below W.heap.size W W') : SS w O V sl n cap x T ls D vt vl vd st W' :=
  ⟨h.cnf.below hb, h.box.below hb, (hb.block O (Array.getElem?_eq_some_iff.1 h.out).1).trans h.out, own_below h.tr hb, h.ol.below hb, own_below h.od hb, h.da, h.ta, bT h.bl hb, h.hO⟩
theorem SS.facts (h : SS w O V sl n cap x T ls D vt vl vd st W) : O < W.heap.size ∧ W.cell? ⟨O, 0, none⟩ = some (.int .i64 x) ∧ W.cell? ⟨O, 1, none⟩ = some vt ∧ W.cell? ⟨O, 2, none⟩ = some vl ∧ W.cell? ⟨O, 3, none⟩ = some (.int .i64 st) ∧ W.cell? ⟨O, 4, none⟩ = some (.int .i64 0) ∧ (∀ k, W.frozen? ⟨O, k, none⟩ = false) ∧ w.heap.size < W.heap.size ∧ W.cell? ⟨w.heap.size, 0, none⟩ = some (.int .i64 V) ∧ W.cell? ⟨w.heap.size, 1, none⟩ = some (.slice sl n cap) := by
  obtain ⟨e0, e1, e2, e3, e4⟩ := cells5 h.out
  exact ⟨(Array.getElem?_eq_some_iff.1 h.out).1, e0, e1, e2, e3, e4, fun k => by simp [World.frozen?, h.out], h.cnf.lt, h.cnf.cells⟩
/-- Only the answer's block is turned. -/
theorem SS.put (h : SS w O V sl n cap x T ls D vt vl vd st W) {x' : Int} {st' : Int} (ho : Only O W W') (hx : W'.heap[O]? = some (.cells #[.int .i64 x', vt, vl, .int .i64 st', .int .i64 0] 48)) : SS w O V sl n cap x' T ls D vt vl vd st' W' := by
  have hOs := h.hO
  exact ⟨(ho.block _ h.cnf.lt (by omega)).trans h.cnf, (ho.block _ h.box.facts.1 (by omega)).trans h.box, hx, own_onlyD h.tr ho h.out (by decide), owc_only h.ol ho h.out (by decide) (by decide), own_onlyD h.od ho h.out (by decide), h.da, h.ta, Only.below h.bl (by omega) ho, h.hO⟩
theorem SS.verdict (h : SS w O V sl n cap x T ls D vt vl vd st W) (y : Int) : SS w O V sl n cap y T ls D vt vl vd st (W.setCell ⟨O, 0, none⟩ (.int .i64 y)) :=
  h.put ((Only.refl O W).setCell 0 _) (heap_setCell_same W O 0 _ 48 _ h.out)
theorem SS.step (h : SS w O V sl n cap x T ls D vt vl vd st W) (y : Int) : SS w O V sl n cap x T ls D vt vl vd y (W.setCell ⟨O, 3, none⟩ (.int .i64 y)) :=
  h.put ((Only.refl O W).setCell 3 _) (heap_setCell_same W O 3 _ 48 _ h.out)
/-- Other blocks where a row of another kind grows. -/
theorem SS.slot (h : SS w O V sl n cap x T ls D vt vl vd st W) {e : TypeId} {m k B : Nat} {v : Value} {xs : List Value} (hv : W.ownsRow B e m v k xs) (h1 : e ≠ 33) (h2 : e ≠ 48) (hB : w.heap.size ≤ B) (hg : W.grownBy W' v.ownBlock) : CnfAt W' w.heap.size V sl n cap ∧ BoxO W' (w.heap.size + 1) ∧ W'.heap[O]? = some (.cells #[.int .i64 x, vt, vl, .int .i64 st, .int .i64 0] 48) ∧ Below w.heap.size w W' := by
  have key : ∀ (k : Nat) (us : Array Value) (t : TypeId), W.heap[k]? = some (.cells us t) → e ≠ t → W'.heap[k]? = some (.cells us t) := fun k us t hk ht =>
    (hg.block k (Array.getElem?_eq_some_iff.1 hk).1 (fun e' => by
      obtain ⟨cur, hc⟩ := own_kind hv e'.symm
      rw [hk] at hc
      cases hc
      exact ht rfl)).trans hk
  exact ⟨key _ _ _ h.cnf h1, key _ _ _ h.box h2, key _ _ _ h.out h2, h.bl.grown hg h.bl.size (fun j hj => Nat.le_trans hB (hv.lt j hj).1)⟩
/-- The decisions turned: their row grew, or a new one came. -/
theorem SS.decide (h : SS w O V sl n cap x T ls D vt vl vd st W) (hvt : vt = .slice none 0 0) {D' : List Int} {vd' : Value} (hg : W.grownBy W' vd.ownBlock) (ho : W'.ownsRow w.heap.size 2 1 vd' D'.length (valsZ D')) (hn : ∀ j, vd'.ownBlock = some j → vd.ownBlock = some j ∨ j = W.heap.size) :
    SS w O V sl n cap x T ls D' vt vl vd' st W' := by
  obtain ⟨s1, s2, s3, s4⟩ := h.slot h.od (by decide) (by decide) (Nat.le_refl _) hg
  have lr : ∀ r ∈ ls, W'.ownsRow w.heap.size 2 1 r.1 r.2.length (valsZ r.2) := fun r hr => (h.ol.each r hr).kept hg (by
    rcases hj : r.1.ownBlock with _ | j
    · exact .inl rfl
    · exact .inr (fun e => h.da r hr j hj e.symm))
  have oc : OwC W' w.heap.size vl ls := ⟨h.ol.row.kept hg (own_diff h.ol.row h.od (by decide)), lr, h.ol.diff⟩
  refine ⟨s1, s2, s3, h.tr.kept hg (.inl (by rw [hvt]; rfl)), oc, ho, fun r hr j hj e => ?_, h.ta, s4, h.hO⟩
  rcases hn j e with e2 | e2
  · exact h.da r hr j hj e2
  · have := ((h.ol.each r hr).lt j hj).2
    omega
/-- New decisions, in a world that only grew. -/
theorem SS.fresh (h : SS w O V sl n cap x T ls D vt vl vd st W) {D' : List Int} {vd' : Value} {B : Nat} (hb : Below W.heap.size W W') (ho : W'.ownsRow B 2 1 vd' D'.length (valsZ D')) (hB : W.heap.size ≤ B) : SS w O V sl n cap x T ls D' vt vl vd' st W' := by
  have h' := h.below hb
  refine ⟨h'.cnf, h'.box, h'.out, h'.tr, h'.ol, own_mono ho (Nat.le_trans h.bl.size hB), fun r hr j hj e => ?_, h'.ta, h'.bl, h'.hO⟩
  have h1 := ((h.ol.each r hr).lt j hj).2
  have h2 := (ho.lt j e).1
  omega
/-- One lemma more. -/
theorem SS.lemma (h : SS w O V sl n cap x T ls D vt vl vd st W) {r : LCl} {vl' : Value} (hr : W.ownsRow w.heap.size 2 1 r.1 r.2.length (valsZ r.2)) (hf : ∀ j, r.1.ownBlock = some j → (∀ s ∈ ls, s.1.ownBlock ≠ some j) ∧ vd.ownBlock ≠ some j ∧ vt.ownBlock ≠ some j) (hg : W.grownBy W' vl.ownBlock) (ho : W'.ownsRow w.heap.size 27 1 vl' (ls.length + 1) (hdC ls ++ [r.1])) :
    SS w O V sl n cap x T (ls ++ [r]) D vt vl' vd st (W'.setCell ⟨O, 2, none⟩ vl') := by
  obtain ⟨s1, s2, s3, s4⟩ := h.slot h.ol.row (by decide) (by decide) (Nat.le_refl _) hg
  have oc := h.ol.add (Below.refl _ _) hr (fun j hj s hs => (hf j hj).1 s hs) hg ho
  have hOs := h.hO
  have ho2 : Only O W' (W'.setCell ⟨O, 2, none⟩ vl') := (Only.refl O W').setCell 2 _
  refine ⟨(ho2.block _ s1.lt (by omega)).trans s1, (ho2.block _ s2.facts.1 (by omega)).trans s2, heap_setCell_same W' O 2 _ 48 _ s3, own_onlyD (h.tr.kept hg (own_diff h.tr h.ol.row (by decide))) ho2 s3 (by decide), owc_only oc ho2 s3 (by decide) (by decide), own_onlyD (h.od.kept hg (own_diff h.od h.ol.row (by decide))) ho2 s3 (by decide), fun s hs j hj => ?_, fun s hs j hj => ?_, Only.below s4 (by omega) ho2, h.hO⟩
  · rcases List.mem_append.1 hs with h1 | h1
    · exact h.da s h1 j hj
    · rw [List.mem_singleton.1 h1] at hj
      exact (hf j hj).2.1
  · rcases List.mem_append.1 hs with h1 | h1
    · exact h.ta s h1 j hj
    · rw [List.mem_singleton.1 h1] at hj
      exact (hf j hj).2.2
/-- One true more; the decisions are no longer asked for. -/
theorem SS.true (h : SS w O V sl n cap x T ls [] vt vl (.slice none 0 0) st W) {T' : List Int} {vt' : Value} (hg : W.grownBy W' vt.ownBlock) (ho : W'.ownsRow w.heap.size 2 1 vt' T'.length (valsZ T')) (hn : ∀ j, vt'.ownBlock = some j → vt.ownBlock = some j ∨ j = W.heap.size) :
    SS w O V sl n cap x T' ls [] vt' vl (.slice none 0 0) st (W'.setCell ⟨O, 1, none⟩ vt') := by
  obtain ⟨s1, s2, s3, s4⟩ := h.slot h.tr (by decide) (by decide) (Nat.le_refl _) hg
  have lr : ∀ r ∈ ls, W'.ownsRow w.heap.size 2 1 r.1 r.2.length (valsZ r.2) := fun r hr => (h.ol.each r hr).kept hg (by
    rcases hj : r.1.ownBlock with _ | j
    · exact .inl rfl
    · exact .inr (fun e => h.ta r hr j hj e.symm))
  have oc : OwC W' w.heap.size vl ls := ⟨h.ol.row.kept hg (own_diff h.ol.row h.tr (by decide)), lr, h.ol.diff⟩
  have hOs := h.hO
  have ho2 : Only O W' (W'.setCell ⟨O, 1, none⟩ vt') := (Only.refl O W').setCell 1 _
  refine ⟨(ho2.block _ s1.lt (by omega)).trans s1, (ho2.block _ s2.facts.1 (by omega)).trans s2, heap_setCell_same W' O 1 _ 48 _ s3, own_onlyD ho ho2 s3 (by decide), owc_only oc ho2 s3 (by decide) (by decide), ⟨rfl, .inl ⟨rfl, rfl⟩⟩, (fun r hr j hj e => by cases e), fun r hr j hj e => ?_, Only.below s4 (by omega) ho2, h.hO⟩
  rcases hn j e with e2 | e2
  · exact h.ta r hr j hj e2
  · have := ((h.ol.each r hr).lt j hj).2
    omega
/-- The decisions forgotten. -/
theorem SS.drop (h : SS w O V sl n cap x T ls D vt vl vd st W) : SS w O V sl n cap x T ls [] vt vl (.slice none 0 0) st W :=
  ⟨h.cnf, h.box, h.out, h.tr, h.ol, ⟨rfl, .inl ⟨rfl, rfl⟩⟩, (fun r hr j hj e => by cases e), h.ta, h.bl, h.hO⟩
/-- The answer laid. -/
theorem SS.fin (h : SS w O V sl n cap x T ls D vt vl vd st W) {R : Res} (hR : R = (x, T, bareC ls, st)) : SPost w (R, 0) (.returned (.agg #[.int .i64 x, vt, vl, .int .i64 st, .int .i64 0])) (set5 W (w.heap.size + 1) (.int .i64 x) vt vl (.int .i64 st) (.int .i64 0)) := by
  subst hR
  have hv : SoV w.heap.size (x, T, bareC ls, st) vt vl ls W := ⟨h.tr, h.ol, rfl, h.ta⟩
  exact ⟨vt, vl, ls, rfl, hv.only (set5_only _ _ _ _ _ _ _) h.box, Only.below h.bl (by omega) (set5_only _ _ _ _ _ _ _)⟩
end
end Go.Proofs.Ytaogkdhloogmhaa
