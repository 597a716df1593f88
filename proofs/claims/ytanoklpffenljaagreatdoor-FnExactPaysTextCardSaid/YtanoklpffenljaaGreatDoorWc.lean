/-
  LINES OF WORDS: impl.digits, columns, placeLine.
-/
import Derived.Test.YtanoklpffenljaaGreatDoorWz
import Derived.Test.YtanoklpffenljaaGreatDoorPb
import Derived.Test.YtanoklpffenljaaGreatDoorAf
namespace Go.Proofs.YtanoklpffenljaaGreatDoor
open Go.RowKit
set_option linter.unusedVariables false
theorem wfI_bd {z : Int} (h : wfI z) : -9223372036854775808 ≤ z ∧ z ≤ 9223372036854775807 := by
  unfold wfI at h
  have e1 : IntKind.i64.min = -9223372036854775808 := by rfl
  have e2 : IntKind.i64.max = 9223372036854775807 := by rfl
  simp [Lit.wf, e1, e2] at h
  omega
theorem new_bd (w : World) : Bd w.heap.size w.heap.size (Lib.byteCells []) (w.alloc (.cells #[.pointer none, .slice none 0 0] 107)) :=
  .inl ⟨Nat.le_refl _, .slice none 0 0, by show (w.heap.push _)[w.heap.size]? = _; simp, ⟨rfl, .inl ⟨rfl, rfl⟩⟩, by simp [Value.ownBlock]⟩
theorem bd_below {B b : Nat} {l : List Value} {w w' : World} (h : Bd B b l w) (hb : Below w.heap.size w w') : Bd B b l w' := by
  have one : ∀ p, Lib.BuilderAt 107 5 B b p l w → Lib.BuilderAt 107 5 B b p l w' := fun p hp => by
    obtain ⟨h1, v, h2, h3, h4⟩ := hp
    exact ⟨h1, v, (hb.block b (Array.getElem?_eq_some_iff.1 h2).1).trans h2, own_below h3 hb, h4⟩
  rcases h with h | h
  · exact .inl (one _ h)
  · exact .inr (one _ h)
theorem ws_text {B b : Nat} {l : List UInt8} {w : World} (d : List UInt8) (h : Bd B b (Lib.byteCells l) w) (hlen : l.length + d.length ≤ 140737488355328) (hBw : B ≤ w.heap.size) :
    Calls Tryz.prog 70 #[.pointer (some ⟨b, 0, none⟩), .string ⟨d.toArray⟩] w fun e w' => e = .returned (.tuple #[.int .i64 d.length, .nilIface]) ∧ Bd B b (Lib.byteCells (l ++ d)) w' ∧ Below B w w' := by
  have := ws_any B b (Lib.byteCells l) ⟨d.toArray⟩ w h (by rw [Lib.byteCells_length]; simpa [ByteArray.size] using hlen) hBw
  refine this.mono ?_
  rintro e w' ⟨rfl, hb, bl⟩
  refine ⟨by simp [ByteArray.size], ?_, bl⟩
  rw [Lib.byteCells_append]
  exact hb


theorem dig_any (n : Int) (h : wfI n) (w : World) (ht : PowTab w) :
    Calls Tryz.prog 46 #[.int .i64 n] w fun e w' => e = .returned (.string ⟨(Lib.itoa n).toArray⟩) ∧ Below w.heap.size w w' := by
  obtain ⟨h0, h1⟩ := wfI_bd h
  have E := Lib.hid (fi_any n h0 h1 w ht)
  clear ht h
  generalize Lib.itoa n = d at *
  go_enter Tryz.func46, Tryz.ntmps46
  go_wp2_with fail
  refine E.out.mono ?_
  rintro e w1 ⟨rfl, b1⟩
  go_wp2
  go_ret
  exact ⟨rfl, b1⟩
theorem dec_all (u : Nat) (h : u ≤ 9223372036854775808) : (Lib.decDigits u).length ≤ 20 := by
  by_cases h0 : u = 0
  · subst h0; rw [Lib.decDigits_one (by decide)]; simp
  · rw [Lib.decDigits_length]
    have := Lib.numDigits_eq u (by omega) (by omega)
    split at this <;> omega
theorem itoa_all (n : Int) (h : wfI n) : (Lib.itoa n).length ≤ 21 := by
  obtain ⟨h0, h1⟩ := wfI_bd h
  unfold Lib.itoa
  split
  · simp only [List.length_cons]
    have := dec_all n.natAbs (by omega)
    omega
  · have := dec_all n.toNat (by omega)
    omega
/-- The words of a line. -/
def wordsB (ds : List (List UInt8)) : List ByteArray := ds.map fun d => ⟨d.toArray⟩
def lineW (ds : List (List UInt8)) : List UInt8 := Lib.join ds [32] ++ [10]
theorem wordsB_lists (ds : List (List UInt8)) : (wordsB ds).map (·.data.toList) = ds := by
  unfold wordsB
  rw [List.map_map]
  conv => rhs; rw [← List.map_id ds]
  exact List.map_congr_left fun d _ => by simp
theorem wordsB_len (ds : List (List UInt8)) : (wordsB ds).length = ds.length := by simp [wordsB]
/-- impl.columns. -/
theorem col_any (bk c : Nat) (ds : List (List UInt8)) (w : World) (hc : ∀ (j : Nat) d, ds[j]? = some d → w.cell? ⟨bk, j, none⟩ = some (.string ⟨d.toArray⟩)) (hbk : bk < w.heap.size) (hN : ds.length ≤ 1000) (hcap : ds.length ≤ c) (hlen : (Lib.join ds [32]).length ≤ 1000000) :
    Calls Tryz.prog 42 #[.slice (some ⟨bk, 0, none⟩) ds.length c] w fun e w' => e = .returned (.string ⟨(lineW ds).toArray⟩) ∧ Below w.heap.size w w' := by
  have E := Lib.hid (Tryz.strings_Join bk 0 c (wordsB ds) ⟨#[32]⟩ w (fun j x hx => by
    unfold wordsB at hx
    rw [List.getElem?_map] at hx
    obtain ⟨d, hd, rfl⟩ := Option.map_eq_some_iff.1 hx
    rw [Nat.zero_add]
    exact hc j d hd) hbk (by rw [wordsB_len]; omega) (by rw [wordsB_len]; exact hcap) (by
      rw [wordsB_lists]; show (Lib.join ds [32]).length ≤ _; omega))
  rw [wordsB_lists, wordsB_len] at E
  have L := Lib.hid (show lineW ds = Lib.join ds [32] ++ [10] from rfl)
  generalize lineW ds = ln at *
  have e0 : (ByteArray.data ⟨#[32]⟩).toList = [32] := rfl
  rw [e0] at E
  generalize Lib.join ds [32] = jn at *
  generalize ds.length = n at *
  have hjn : (⟨jn.toArray⟩ : ByteArray).size = jn.length := by simp [ByteArray.size]
  clear hc
  go_enter Tryz.func42, Tryz.ntmps42
  go_wp2_with fail
  refine E.out.mono ?_
  rintro e w1 ⟨rfl, b1⟩
  go_wp2
  go_ret
  exact ⟨by rw [L.out]; exact congrArg (fun x => Ending.returned (.string x)) (ba_app jn [10]), b1⟩

/-- A place's line. -/
def plB (p : LPl) : List UInt8 := lineW [Lib.itoa p.1, Lib.itoa p.2]
theorem two_words (w : World) (d1 d2 : List UInt8) : ∀ (j : Nat) d, [d1, d2][j]? = some d → (w.alloc (.cells #[.string ⟨d1.toArray⟩, .string ⟨d2.toArray⟩] 9)).cell? ⟨w.heap.size, j, none⟩ = some (.string ⟨d.toArray⟩) := by
  intro j d h
  rw [World.cell?_alloc_new]
  match j, h with
  | 0, h => simp at h; subst h; rfl
  | 1, h => simp at h; subst h; rfl
set_option maxRecDepth 100000 in
set_option maxHeartbeats 2000000 in
/-- impl.placeLine. -/
theorem pll_any (a b : Int) (ha : wfI a) (hb : wfI b) (w : World) (ht : PowTab w) :
    Calls Tryz.prog 88 #[.agg #[.int .i64 a, .int .i64 b]] w fun e w' => e = .returned (.string ⟨(plB (a, b)).toArray⟩) ∧ Below w.heap.size w w' := by
  have hd1 := itoa_all a ha
  have hd2 := itoa_all b hb
  have HT : Hid (PowTab (w.alloc (.cells #[.int .i64 a, .int .i64 b] 97))) := ht.below (bA0 _ _)
  have B0 := Lib.hid (bA0 w (.cells #[.int .i64 a, .int .i64 b] 97))
  have KB : Hid (∀ W, Below (w.alloc (.cells #[.int .i64 a, .int .i64 b] 97)).heap.size (w.alloc (.cells #[.int .i64 a, .int .i64 b] 97)) W → w.heap.size < W.heap.size ∧ W.cell? ⟨w.heap.size, 0, none⟩ = some (.int .i64 a) ∧ W.cell? ⟨w.heap.size, 1, none⟩ = some (.int .i64 b)) := fun W hW => by
    have hs := hW.size
    simp at hs
    exact ⟨by omega, (hW.cell (by simp)).trans (by rw [World.cell?_alloc_new]; rfl), (hW.cell (by simp)).trans (by rw [World.cell?_alloc_new]; rfl)⟩
  generalize hw0 : w.alloc (.cells #[.int .i64 a, .int .i64 b] 97) = w0 at *
  have E1 : Hid (∀ W, Below w0.heap.size w0 W → Calls Tryz.prog 46 #[.int .i64 a] W fun e w' => e = .returned (.string ⟨(Lib.itoa a).toArray⟩) ∧ Below W.heap.size W w') := fun W hW => dig_any a ha W (HT.out.below hW)
  have E2 : Hid (∀ W, Below w0.heap.size w0 W → Calls Tryz.prog 46 #[.int .i64 b] W fun e w' => e = .returned (.string ⟨(Lib.itoa b).toArray⟩) ∧ Below W.heap.size W w') := fun W hW => dig_any b hb W (HT.out.below hW)
  have hLN := Lib.hid (show plB (a, b) = lineW [Lib.itoa a, Lib.itoa b] from rfl)
  generalize plB (a, b) = ln at *
  generalize Lib.itoa a = d1 at *
  generalize Lib.itoa b = d2 at *
  have E3 : Hid (∀ W, Below w0.heap.size w0 W → Calls Tryz.prog 42 #[.slice (some ⟨W.heap.size, 0, none⟩) 2 2] (W.alloc (.cells #[.string ⟨d1.toArray⟩, .string ⟨d2.toArray⟩] 9)) fun e w' => e = .returned (.string ⟨ln.toArray⟩) ∧ Below (W.alloc (.cells #[.string ⟨d1.toArray⟩, .string ⟨d2.toArray⟩] 9)).heap.size (W.alloc (.cells #[.string ⟨d1.toArray⟩, .string ⟨d2.toArray⟩] 9)) w') := fun W hW => by
    rw [hLN.out]
    exact col_any W.heap.size 2 [d1, d2] (W.alloc (.cells #[.string ⟨d1.toArray⟩, .string ⟨d2.toArray⟩] 9)) (two_words W d1 d2) (by simp) (by simp) (by simp) (by simp [Lib.join, List.intercalate]; omega)
  clear hd1 hd2 ha hb ht hLN HT
  go_enter Tryz.func88, Tryz.ntmps88
  go_wp2_with fail
  try rw [hw0]
  refine wp_region_held_drew (S := fun W => w.heap.size < W.heap.size ∧ W.cell? ⟨w.heap.size, 0, none⟩ = some (.int .i64 a) ∧ W.cell? ⟨w.heap.size, 1, none⟩ = some (.int .i64 b)) (by kernel_rfl) ?_ (fun hHeld => ?_)
  · exact KB.out _ (Below.refl _ _).drew
  refine wpAnyH_take (i := 0) (oi := _) (v := ?_) rfl (by kernel_rfl) (by kernel_rfl) (by kernel_rfl) (fun _ _ _ h => h) (Or.inl ⟨by rfl, ?_⟩) (by assumption) ?_
  rotate_left
  · first | (intro w hSw; (try dsimp only at hSw); go_simp; done) | (intro w hSw; (try dsimp only at hSw); go_simp; with_reducible rfl)
  try simp only [Act.put, List.setIfInBounds_toArray, List.set_cons_zero, List.set_cons_succ, List.getElem_toArray, List.getElem_cons_zero]
  refine wpAnyH_take (i := 1) (oi := _) (v := ?_) rfl (by kernel_rfl) (by kernel_rfl) (by kernel_rfl) (fun _ _ _ h => h) (Or.inl ⟨by rfl, ?_⟩) (by assumption) ?_
  rotate_left
  · first | (intro w hSw; (try dsimp only at hSw); go_simp; done) | (intro w hSw; (try dsimp only at hSw); go_simp; with_reducible rfl)
  try simp only [Act.put, List.setIfInBounds_toArray, List.set_cons_zero, List.set_cons_succ, List.getElem_toArray, List.getElem_cons_succ, List.getElem_cons_zero]
  refine wpAnyH_take (i := 3) (oi := _) (v := ?_) rfl (by kernel_rfl) (by kernel_rfl) (by kernel_rfl) (fun _ _ _ h => h) (Or.inl ⟨by rfl, ?_⟩) (by assumption) ?_
  rotate_left
  · first | (intro w hSw; (try dsimp only at hSw); go_simp; done) | (intro w hSw; (try dsimp only at hSw); go_simp; with_reducible rfl)
  try simp only [Act.put, List.setIfInBounds_toArray, List.set_cons_zero, List.set_cons_succ, List.getElem_toArray, List.getElem_cons_succ, List.getElem_cons_zero]
  refine wpAnyH_take (i := 4) (oi := _) (v := ?_) rfl (by kernel_rfl) (by kernel_rfl) (by kernel_rfl) (fun _ _ _ h => h) (Or.inl ⟨by rfl, ?_⟩) (by assumption) ?_
  rotate_left
  · first | (intro w hSw; (try dsimp only at hSw); go_simp; done) | (intro w hSw; (try dsimp only at hSw); go_simp; with_reducible rfl)
  try simp only [Act.put, List.setIfInBounds_toArray, List.set_cons_zero, List.set_cons_succ, List.getElem_toArray, List.getElem_cons_succ, List.getElem_cons_zero]
  refine wpAnyH_ready (rs := [2]) (by kernel_rfl) (by simp) ?_
  refine AllReadyH.cons rfl (fun K hK => ?_) AllReadyH.nil
  go_simp
  go_wp2_with (go_at_call 46; refine (E1.out _ (Below.refl _ _).drew).mono ?_; rintro e w2 ⟨rfl, b1⟩)
  have F2 : Hid (Below w0.heap.size w0 w2) := bT (Below.refl w0.heap.size w0).drew b1
  clear b1
  refine hK.out _ _ ?_ (fun hHeld => ?_)
  · exact KB.out _ F2.out
  clear hK K
  refine wpAnyH_ready (rs := [5]) (by kernel_rfl) (by simp) ?_
  refine AllReadyH.cons rfl (fun K hK => ?_) AllReadyH.nil
  go_simp
  go_wp2_with (go_at_call 46; refine (E2.out _ F2.out).mono ?_; rintro e w3 ⟨rfl, b1⟩)
  have F3 : Hid (Below w0.heap.size w0 w3) := bT F2.out b1
  clear b1
  refine hK.out _ _ ?_ (fun hHeld => ?_)
  · exact KB.out _ F3.out
  clear hK K
  refine wpAnyH_ready (rs := [6]) (by kernel_rfl) (by simp) ?_
  refine AllReadyH.cons rfl (fun K hK => ?_) AllReadyH.nil
  go_simp
  go_wp2
  refine hK.out _ _ ?_ (fun hHeld => ?_)
  · exact KB.out _ (bA F3.out _)
  clear hK K
  refine wpAnyH_ready (rs := [7]) (by kernel_rfl) (by simp) ?_
  refine AllReadyH.cons rfl (fun K hK => ?_) AllReadyH.nil
  go_simp
  go_wp2_with (go_at_call 42; refine (E3.out w3 F3.out).mono ?_; rintro e w4 ⟨rfl, b1⟩)
  have F4 : Hid (Below w0.heap.size w0 w4) := bT (bA F3.out _) b1
  clear b1
  refine hK.out _ _ ?_ (fun hHeld => ?_)
  · exact KB.out _ F4.out
  clear hK K
  refine wpAnyH_take (i := 8) (oi := _) (v := ?_) rfl (by kernel_rfl) (by kernel_rfl) (by kernel_rfl) (fun _ _ _ h => h) (Or.inl ⟨by rfl, ?_⟩) (by assumption) ?_
  rotate_left
  · first | (intro w hSw; (try dsimp only at hSw); go_simp; done) | (intro w hSw; (try dsimp only at hSw); go_simp; with_reducible rfl)
  try simp only [Act.put, List.setIfInBounds_toArray, List.set_cons_zero, List.set_cons_succ, List.getElem_toArray, List.getElem_cons_succ, List.getElem_cons_zero]
  refine wpAnyH_done (by kernel_rfl) ?_ _
  have BB := bT B0.out F4.out
  clear KB E1 E2 E3 F2 F3 F4
  go_wp2
  go_ret
  exact ⟨rfl, BB⟩
end Go.Proofs.YtanoklpffenljaaGreatDoor
