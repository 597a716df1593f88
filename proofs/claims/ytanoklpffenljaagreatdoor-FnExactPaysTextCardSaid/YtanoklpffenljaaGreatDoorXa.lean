/-
  BIDS AS TEXT: StateName, impl.bidLine, impl.linesOf over Bids, both BidsText.
-/
import Derived.Test.YtanoklpffenljaaGreatDoorWc
import Derived.Test.YtanoklpffenljaaGreatDoorVy
import Derived.Test.YtanoklpffenljaaGreatDoorCh
import Derived.Test.YtanoklpffenljaaGreatDoorCg
namespace Go.Proofs.YtanoklpffenljaaGreatDoor
open Go.RowKit
set_option linter.unusedVariables false

def nameL (z : Int) : List UInt8 :=
  if z = 1 then [97, 99, 116, 105, 118, 101] else if z = 2 then [102, 114, 111, 122, 101, 110] else if z = 3 then [111, 117, 116] else if z = 4 then [119, 111, 110] else []
theorem nameL_le (z : Int) : (nameL z).length ≤ 6 := by
  unfold nameL
  repeat' split
  all_goals simp

set_option maxHeartbeats 1000000 in
theorem ssname_any (z : Int) (w : World) : Calls Tryz.prog 23 #[.int .i64 z] w fun e w' => e = .returned (.string ⟨(nameL z).toArray⟩) ∧ Below w.heap.size w w' := by
  by_cases h1 : z = 1
  · subst h1
    go_enter Tryz.func23, Tryz.ntmps23
    go_wp2
    go_ret
    exact ⟨rfl, Below.refl _ _⟩
  by_cases h2 : z = 2
  · subst h2
    go_enter Tryz.func23, Tryz.ntmps23
    go_wp2
    go_ret
    exact ⟨rfl, Below.refl _ _⟩
  by_cases h3 : z = 3
  · subst h3
    go_enter Tryz.func23, Tryz.ntmps23
    go_wp2
    go_ret
    exact ⟨rfl, Below.refl _ _⟩
  by_cases h4 : z = 4
  · subst h4
    go_enter Tryz.func23, Tryz.ntmps23
    go_wp2
    go_ret
    exact ⟨rfl, Below.refl _ _⟩
  have e : nameL z = [] := by unfold nameL; rw [if_neg h1, if_neg h2, if_neg h3, if_neg h4]
  rw [e]
  clear e
  go_enter Tryz.func23, Tryz.ntmps23
  go_wp2
  go_ret
  exact ⟨rfl, Below.refl _ _⟩

set_option maxHeartbeats 1000000 in
theorem isname_any (z : Int) (w : World) : Calls Tryz.prog 72 #[.int .i64 z] w fun e w' => e = .returned (.string ⟨(nameL z).toArray⟩) ∧ Below w.heap.size w w' := by
  by_cases h1 : z = 1
  · subst h1
    go_enter Tryz.func72, Tryz.ntmps72
    go_wp2
    go_ret
    exact ⟨rfl, Below.refl _ _⟩
  by_cases h2 : z = 2
  · subst h2
    go_enter Tryz.func72, Tryz.ntmps72
    go_wp2
    go_ret
    exact ⟨rfl, Below.refl _ _⟩
  by_cases h3 : z = 3
  · subst h3
    go_enter Tryz.func72, Tryz.ntmps72
    go_wp2
    go_ret
    exact ⟨rfl, Below.refl _ _⟩
  by_cases h4 : z = 4
  · subst h4
    go_enter Tryz.func72, Tryz.ntmps72
    go_wp2
    go_ret
    exact ⟨rfl, Below.refl _ _⟩
  have e : nameL z = [] := by unfold nameL; rw [if_neg h1, if_neg h2, if_neg h3, if_neg h4]
  rw [e]
  clear e
  go_enter Tryz.func72, Tryz.ntmps72
  go_wp2
  go_ret
  exact ⟨rfl, Below.refl _ _⟩

theorem mtextI_of (v : Int) : (if isM v then mtextI v else []) = mtextOf v := rfl
theorem mtextOf_le (v : Int) : (mtextOf v).length ≤ 24 := by
  unfold mtextOf
  split
  · rename_i h
    have hb := isM_t h
    have hd := dec_all (mag v / 100).toNat (by unfold mag; omega)
    unfold mtext
    split <;> simp <;> omega
  · simp
/-- A Bid's line. -/
def bdB (b : LPr) : List UInt8 := lineW [Lib.itoa b.1, nameL b.2.1, mtextOf b.2.2]
theorem line3 (d1 d2 d3 : List UInt8) : lineW [d1, d2, d3] = d1 ++ [32] ++ d2 ++ [32] ++ d3 ++ [10] := by simp [lineW, Lib.join, List.intercalate]
theorem bdB_le (b : LPr) (h : wfI b.1) : (bdB b).length ≤ 54 := by
  have h1 := itoa_all b.1 h
  have h2 := nameL_le b.2.1
  have h3 := mtextOf_le b.2.2
  unfold bdB
  rw [line3]
  simp
  omega
theorem three_words (w : World) (d1 d2 d3 : List UInt8) : ∀ (j : Nat) d, [d1, d2, d3][j]? = some d → (w.alloc (.cells #[.string ⟨d1.toArray⟩, .string ⟨d2.toArray⟩, .string ⟨d3.toArray⟩] 9)).cell? ⟨w.heap.size, j, none⟩ = some (.string ⟨d.toArray⟩) := by
  intro j d h
  rw [World.cell?_alloc_new]
  match j, h with
  | 0, h => simp at h; subst h; rfl
  | 1, h => simp at h; subst h; rfl
  | 2, h => simp at h; subst h; rfl
set_option maxRecDepth 100000 in
set_option maxHeartbeats 2000000 in
/-- impl.bidLine. -/
theorem bdl_any (x y z : Int) (hx : wfI x) (w : World) (ht : PowTab w) :
    Calls Tryz.prog 30 #[.agg #[.int .i64 x, .int .i64 y, .int .i64 z]] w fun e w' => e = .returned (.string ⟨(bdB (x, y, z)).toArray⟩) ∧ Below w.heap.size w w' := by
  have hd1 := itoa_all x hx
  have hd2 := nameL_le y
  have hd3 := mtextOf_le z
  have HT : Hid (PowTab (w.alloc (.cells #[.int .i64 x, .int .i64 y, .int .i64 z] 58))) := ht.below (bA0 _ _)
  have B0 := Lib.hid (bA0 w (.cells #[.int .i64 x, .int .i64 y, .int .i64 z] 58))
  have KB : Hid (∀ W, Below (w.alloc (.cells #[.int .i64 x, .int .i64 y, .int .i64 z] 58)).heap.size (w.alloc (.cells #[.int .i64 x, .int .i64 y, .int .i64 z] 58)) W → w.heap.size < W.heap.size ∧ W.cell? ⟨w.heap.size, 0, none⟩ = some (.int .i64 x) ∧ W.cell? ⟨w.heap.size, 1, none⟩ = some (.int .i64 y) ∧ W.cell? ⟨w.heap.size, 2, none⟩ = some (.int .i64 z)) := fun W hW => by
    have hs := hW.size
    simp at hs
    exact ⟨by omega, (hW.cell (by simp)).trans (by rw [World.cell?_alloc_new]; rfl), (hW.cell (by simp)).trans (by rw [World.cell?_alloc_new]; rfl), (hW.cell (by simp)).trans (by rw [World.cell?_alloc_new]; rfl)⟩
  generalize hw0 : w.alloc (.cells #[.int .i64 x, .int .i64 y, .int .i64 z] 58) = w0 at *
  have E1 : Hid (∀ W, Below w0.heap.size w0 W → Calls Tryz.prog 46 #[.int .i64 x] W fun e w' => e = .returned (.string ⟨(Lib.itoa x).toArray⟩) ∧ Below W.heap.size W w') := fun W hW => dig_any x hx W (HT.out.below hW)
  have E2 : Hid (∀ W, Calls Tryz.prog 72 #[.int .i64 y] W fun e w' => e = .returned (.string ⟨(nameL y).toArray⟩) ∧ Below W.heap.size W w') := fun W => isname_any y W
  have E3 : Hid (∀ W, Below w0.heap.size w0 W → Calls Tryz.prog 43 #[.int .i64 z] W fun e w' => e = .returned (.string ⟨(mtextOf z).toArray⟩) ∧ Below W.heap.size W w') := fun W hW => imt_any z W (HT.out.below hW)
  have hLN := Lib.hid (show bdB (x, y, z) = lineW [Lib.itoa x, nameL y, mtextOf z] from rfl)
  generalize bdB (x, y, z) = ln at *
  generalize Lib.itoa x = d1 at *
  generalize nameL y = d2 at *
  generalize mtextOf z = d3 at *
  have E4 : Hid (∀ W : World, Calls Tryz.prog 42 #[.slice (some ⟨W.heap.size, 0, none⟩) 3 3] (W.alloc (.cells #[.string ⟨d1.toArray⟩, .string ⟨d2.toArray⟩, .string ⟨d3.toArray⟩] 9)) fun e w' => e = .returned (.string ⟨ln.toArray⟩) ∧ Below (W.alloc (.cells #[.string ⟨d1.toArray⟩, .string ⟨d2.toArray⟩, .string ⟨d3.toArray⟩] 9)).heap.size (W.alloc (.cells #[.string ⟨d1.toArray⟩, .string ⟨d2.toArray⟩, .string ⟨d3.toArray⟩] 9)) w') := fun W => by
    rw [hLN.out]
    exact col_any W.heap.size 3 [d1, d2, d3] _ (three_words W d1 d2 d3) (by simp) (by simp) (by simp) (by simp [Lib.join, List.intercalate]; omega)
  clear hd1 hd2 hd3 hx ht hLN HT
  go_enter Tryz.func30, Tryz.ntmps30
  go_wp2_with fail
  try rw [hw0]
  refine wp_region_held_drew (S := fun W => w.heap.size < W.heap.size ∧ W.cell? ⟨w.heap.size, 0, none⟩ = some (.int .i64 x) ∧ W.cell? ⟨w.heap.size, 1, none⟩ = some (.int .i64 y) ∧ W.cell? ⟨w.heap.size, 2, none⟩ = some (.int .i64 z)) (by kernel_rfl) ?_ (fun hHeld => ?_)
  · exact KB.out _ (Below.refl _ _).drew
  refine wpAnyH_take (i := 0) (oi := _) (v := ?_) rfl (by kernel_rfl) (by kernel_rfl) (by kernel_rfl) (fun _ _ _ h => h) (Or.inl ⟨by rfl, ?_⟩) (by assumption) ?_
  rotate_left
  · first | (intro w hSw; (try dsimp only at hSw); go_simp; done) | (intro w hSw; (try dsimp only at hSw); go_simp; with_reducible rfl)
  try simp only [Act.put, List.setIfInBounds_toArray, List.set_cons_zero, List.set_cons_succ, List.getElem_toArray, List.getElem_cons_zero]
  refine wpAnyH_take (i := 1) (oi := _) (v := ?_) rfl (by kernel_rfl) (by kernel_rfl) (by kernel_rfl) (fun _ _ _ h => h) (Or.inl ⟨by rfl, ?_⟩) (by assumption) ?_
  rotate_left
  · first | (intro w hSw; (try dsimp only at hSw); go_simp; done) | (intro w hSw; (try dsimp only at hSw); go_simp; with_reducible rfl)
  try simp only [Act.put, List.setIfInBounds_toArray, List.set_cons_zero, List.set_cons_succ, List.getElem_toArray, List.getElem_cons_succ, List.getElem_cons_zero]
  refine wpAnyH_take (i := 3) (oi := _) (v := ?_) rfl (by kernel_rfl) (by kernel_rfl) (by kernel_rfl) (fun _ _ _ h => h) (Or.inl ⟨by rfl, ?_⟩) (by assumption) ?_
  rotate_left
  · first | (intro w hSw; (try dsimp only at hSw); go_simp; done) | (intro w hSw; (try dsimp only at hSw); go_simp; with_reducible rfl)
  try simp only [Act.put, List.setIfInBounds_toArray, List.set_cons_zero, List.set_cons_succ, List.getElem_toArray, List.getElem_cons_succ, List.getElem_cons_zero]
  refine wpAnyH_take (i := 4) (oi := _) (v := ?_) rfl (by kernel_rfl) (by kernel_rfl) (by kernel_rfl) (fun _ _ _ h => h) (Or.inl ⟨by rfl, ?_⟩) (by assumption) ?_
  rotate_left
  · first | (intro w hSw; (try dsimp only at hSw); go_simp; done) | (intro w hSw; (try dsimp only at hSw); go_simp; with_reducible rfl)
  try simp only [Act.put, List.setIfInBounds_toArray, List.set_cons_zero, List.set_cons_succ, List.getElem_toArray, List.getElem_cons_succ, List.getElem_cons_zero]
  refine wpAnyH_take (i := 6) (oi := _) (v := ?_) rfl (by kernel_rfl) (by kernel_rfl) (by kernel_rfl) (fun _ _ _ h => h) (Or.inl ⟨by rfl, ?_⟩) (by assumption) ?_
  rotate_left
  · first | (intro w hSw; (try dsimp only at hSw); go_simp; done) | (intro w hSw; (try dsimp only at hSw); go_simp; with_reducible rfl)
  try simp only [Act.put, List.setIfInBounds_toArray, List.set_cons_zero, List.set_cons_succ, List.getElem_toArray, List.getElem_cons_succ, List.getElem_cons_zero]
  refine wpAnyH_take (i := 7) (oi := _) (v := ?_) rfl (by kernel_rfl) (by kernel_rfl) (by kernel_rfl) (fun _ _ _ h => h) (Or.inl ⟨by rfl, ?_⟩) (by assumption) ?_
  rotate_left
  · first | (intro w hSw; (try dsimp only at hSw); go_simp; done) | (intro w hSw; (try dsimp only at hSw); go_simp; with_reducible rfl)
  try simp only [Act.put, List.setIfInBounds_toArray, List.set_cons_zero, List.set_cons_succ, List.getElem_toArray, List.getElem_cons_succ, List.getElem_cons_zero]
  refine wpAnyH_ready (rs := [2]) (by kernel_rfl) (by simp) ?_
  refine AllReadyH.cons rfl (fun K hK => ?_) AllReadyH.nil
  go_simp
  go_wp2_with (go_at_call 46; refine (E1.out _ (Below.refl _ _).drew).mono ?_; rintro e w2 ⟨rfl, b1⟩)
  have F2 : Hid (Below w0.heap.size w0 w2) := bT (Below.refl w0.heap.size w0).drew b1
  clear b1
  refine hK.out _ _ ?_ (fun hHeld => ?_)
  · exact KB.out _ F2.out
  clear hK K
  refine wpAnyH_ready (rs := [5]) (by kernel_rfl) (by simp) ?_
  refine AllReadyH.cons rfl (fun K hK => ?_) AllReadyH.nil
  go_simp
  go_wp2_with (go_at_call 72; refine (E2.out _).mono ?_; rintro e w3 ⟨rfl, b1⟩)
  have F3 : Hid (Below w0.heap.size w0 w3) := bT F2.out b1
  clear b1
  refine hK.out _ _ ?_ (fun hHeld => ?_)
  · exact KB.out _ F3.out
  clear hK K
  refine wpAnyH_ready (rs := [8]) (by kernel_rfl) (by simp) ?_
  refine AllReadyH.cons rfl (fun K hK => ?_) AllReadyH.nil
  go_simp
  go_wp2_with (go_at_call 43; refine (E3.out _ F3.out).mono ?_; rintro e w4 ⟨rfl, b1⟩)
  have F4 : Hid (Below w0.heap.size w0 w4) := bT F3.out b1
  clear b1
  refine hK.out _ _ ?_ (fun hHeld => ?_)
  · exact KB.out _ F4.out
  clear hK K
  refine wpAnyH_ready (rs := [9]) (by kernel_rfl) (by simp) ?_
  refine AllReadyH.cons rfl (fun K hK => ?_) AllReadyH.nil
  go_simp
  go_wp2
  refine hK.out _ _ ?_ (fun hHeld => ?_)
  · exact KB.out _ (bA F4.out _)
  clear hK K
  refine wpAnyH_ready (rs := [10]) (by kernel_rfl) (by simp) ?_
  refine AllReadyH.cons rfl (fun K hK => ?_) AllReadyH.nil
  go_simp
  go_wp2_with (go_at_call 42; refine (E4.out w4).mono ?_; rintro e w5 ⟨rfl, b1⟩)
  have F5 : Hid (Below w0.heap.size w0 w5) := bT (bA F4.out _) b1
  clear b1
  refine hK.out _ _ ?_ (fun hHeld => ?_)
  · exact KB.out _ F5.out
  clear hK K
  refine wpAnyH_take (i := 11) (oi := _) (v := ?_) rfl (by kernel_rfl) (by kernel_rfl) (by kernel_rfl) (fun _ _ _ h => h) (Or.inl ⟨by rfl, ?_⟩) (by assumption) ?_
  rotate_left
  · first | (intro w hSw; (try dsimp only at hSw); go_simp; done) | (intro w hSw; (try dsimp only at hSw); go_simp; with_reducible rfl)
  try simp only [Act.put, List.setIfInBounds_toArray, List.set_cons_zero, List.set_cons_succ, List.getElem_toArray, List.getElem_cons_succ, List.getElem_cons_zero]
  refine wpAnyH_done (by kernel_rfl) ?_ _
  have BB := bT B0.out F5.out
  clear KB E1 E2 E3 E4 F2 F3 F4 F5
  go_wp2
  go_ret
  exact ⟨rfl, BB⟩
def bdsB (bs : List LPr) : List UInt8 := bs.flatMap bdB
noncomputable def bdsT (rs : List LSt) (ps : List LPr) (top pr st bu : Int) (bs : List LPr) (ls : List LPl) : List UInt8 := if B (ClkR rs ps top pr st bu bs ls) = true then bdsB bs else []
def WfBs (bs : List LPr) : Prop := ∀ b ∈ bs, wfI b.1
theorem bdsB_step (pl : List LPr) (k : Nat) (h : k < pl.length) : bdsB (pl.take (k + 1)) = bdsB (pl.take k) ++ bdB pl[k] := by
  unfold bdsB
  rw [List.take_add_one, List.getElem?_eq_getElem h, List.flatMap_append]
  simp
theorem bdsB_le (pl : List LPr) (h : WfBs pl) (k : Nat) : (bdsB (pl.take k)).length ≤ 54 * k := by
  induction k with
  | zero => simp [bdsB]
  | succ k ih =>
    by_cases hk : k < pl.length
    · rw [bdsB_step pl k hk, List.length_append]
      have := bdB_le pl[k] (h _ (List.getElem_mem hk))
      omega
    · rw [List.take_of_length_le (by omega)] at *
      omega
theorem rise_in {lo hi : Int} {zs : List Int} (h : InRise lo hi zs) {z : Int} (hz : z ∈ zs) : lo ≤ z ∧ z ≤ hi := by
  obtain ⟨i, hi', rfl⟩ := List.getElem_of_mem hz
  have := (h i hi').1
  rwa [List.getD_eq_getElem?_getD, List.getElem?_eq_getElem hi', Option.getD_some] at this
theorem clk_bds {rs : List LSt} {ps : List LPr} {top pr st bu : Int} {bs : List LPr} {ls : List LPl} (h : ClkR rs ps top pr st bu bs ls) : bs.length ≤ 12 ∧ WfBs bs := by
  obtain ⟨ht, -, hb, -⟩ := h
  have e := hb.1
  refine ⟨?_, fun b hbm => ?_⟩
  · have := congrArg List.length e
    simp [bidsI, idsL] at this
    have := ht.1.2.1
    omega
  · have hm : b.1 ∈ idsL rs := by rw [← e]; exact List.mem_map.2 ⟨b, hbm, rfl⟩
    have := rise_in ht.2.2.1 hm
    exact wf_small ⟨by omega, by omega⟩
abbrev BDF : Value := .func (.func 30) #[] #[]
set_option maxRecDepth 100000 in
set_option maxHeartbeats 2000000 in
/-- impl.linesOf over Bids. -/
theorem lob_any (sl : Option Addr) (cap : Nat) (pl : List LPr) (w : World) (hn : pl.length ≤ 1000) (hw : WfBs pl) (hz : Prs w sl pl) (ht : PowTab w) :
    Calls Tryz.prog 29 #[.slice sl pl.length cap, BDF] w fun e w' => e = .returned (.string ⟨(bdsB pl).toArray⟩) ∧ Below w.heap.size w w' := by
  have HZ := Lib.hid hz
  have HT := Lib.hid ht
  have HW := Lib.hid hw
  have AL := Lib.hid (bdsB_le pl hw)
  have HX0 := Lib.hid (new_bd w)
  have B0 := Lib.hid (bA0 w (.cells #[.pointer none, .slice none 0 0] 107))
  clear hz ht hw
  generalize hN : pl.length = n at *
  have HN := Lib.hid hN
  clear hN
  go_enter Tryz.func29, Tryz.ntmps29
  go_wp2_with fail
  generalize w.alloc (.cells #[.pointer none, .slice none 0 0] 107) = w0 at *
  go_loopw [11] (fun i wr => ∃ (k : Nat) (l : List UInt8), i = .int .i64 k ∧ k ≤ n ∧ Hid (l = bdsB (pl.take k)) ∧ Hid (Bd w.heap.size w.heap.size (Lib.byteCells l) wr) ∧ Hid (Below w.heap.size w wr)) (fun i _ => n - (intOf i).toNat)
  case atStart => exact ⟨0, [], rfl, Nat.zero_le _, (by show [] = bdsB (pl.take 0); simp [bdsB]), HX0, B0⟩
  case round =>
    obtain ⟨k, l, rfl, hk, HL, XB, HB⟩ := hrel
    have hk0 : (0 : Int) ≤ (k : Int) := by omega
    by_cases g1 : k < n
    · have g1' : (k : Int) < (n : Int) := by omega
      have hlt : k < pl.length := by rw [HN.out]; exact g1
      obtain ⟨c, o, rfl, Z0⟩ : ∃ c o, sl = some ⟨c, o, none⟩ ∧ PrAt w c o pl := by
        rcases HZ.out with e | h
        · rw [e] at hlt; simp at hlt
        · exact h
      obtain ⟨hc0, hc1, hc2⟩ := (Z0.below HB.out).cell k hlt
      have S1 := Lib.hid (bdsB_step pl k hlt)
      have LL := Lib.hid (AL.out k)
      obtain ⟨x, y, z, hp⟩ : ∃ x y z, pl[k] = (x, y, z) := ⟨_, _, _, rfl⟩
      have HWk := HW.out _ (List.getElem_mem hlt)
      rw [hp] at hc0 hc1 hc2 S1 HWk
      dsimp only at hc0 hc1 hc2 HWk
      have E1 := Lib.hid (bdl_any x y z HWk (wr.alloc (.cells #[.int .i64 x, .int .i64 y, .int .i64 z] 58)) ((HT.out.below HB.out).below (bA0 _ _)))
      have hd := bdB_le (x, y, z) HWk
      have B1 := Lib.hid (bA0 wr (.cells #[.int .i64 x, .int .i64 y, .int .i64 z] 58))
      have hwb := HB.out.size
      clear hlt hp Z0 HWk
      generalize bdB (x, y, z) = d at *
      go_wp2_with fail
      refine E1.out.mono ?_
      rintro e w2 ⟨rfl, b2⟩
      have D2 := Lib.hid (bT B1.out b2)
      have X2 : Hid (Bd w.heap.size w.heap.size (Lib.byteCells l) w2) := Lib.hid (bd_below XB.out D2.out)
      have hll : l.length ≤ 54 * k := by rw [HL.out]; exact LL.out
      have E2 := Lib.hid (ws_text d X2.out (by omega) (by have := D2.out.size; omega))
      have F2 := Lib.hid (bT HB.out D2.out)
      clear b2 E1 D2 hc0 hc1 hc2
      go_wp2_with fail
      refine E2.out.mono ?_
      rintro e w3 ⟨rfl, x3, b3⟩
      have X3 := Lib.hid x3
      have F3 := Lib.hid (F2.out.trans b3)
      have NL : Hid (l ++ d = bdsB (pl.take (k + 1))) := by rw [S1.out, HL.out]; exact Lib.hid rfl
      clear x3 b3 E2 X2 F2 XB HB HL
      go_wp2
      go_roundw
      case rel => exact ⟨k + 1, l ++ d, by go_num, by omega, NL, X3, F3⟩
      case measure => simp [intOf]; omega
    · have g1' : ¬ (k : Int) < (n : Int) := by omega
      have NL : Hid (l = bdsB pl) := by
        have := HL.out
        rwa [List.take_of_length_le (by rw [HN.out]; omega)] at this
      have hwb := HB.out.size
      have E2 := Lib.hid (Tryz.Builder_String_any w.heap.size w.heap.size l wr XB.out hwb)
      clear HL XB
      go_wp2_with fail
      refine E2.out.mono ?_
      rintro e w2 ⟨rfl, b2⟩
      have D2 := Lib.hid (HB.out.trans b2)
      go_wp2
      go_ret
      exact ⟨by rw [NL.out]; rfl, D2.out⟩

set_option maxRecDepth 100000 in
set_option maxHeartbeats 4000000 in
/-- impl.BidsText. -/
theorem ibt_any (sl : Option Addr) (cap : Nat) (tl : Option Addr) (kap : Nat) (top pr st bu : Int) (bl : Option Addr) (cb : Nat) (pl : Option Addr) (cp : Nat) (rs : List LSt) (ps : List LPr) (bs : List LPr) (ls : List LPl) (w : World) (hn : rs.length ≤ 1048576) (hq : bs.length ≤ 1048576) (hl : ls.length ≤ 1048576) (hcp : ls.length ≤ cp) (hz : Sts w sl rs) (hp : Prs w tl ps) (hw : ∀ p ∈ ps, WfP p) (hbs : Prs w bl bs) (hls : Pls w pl ls) (ht : PowTab w) :
    Calls Tryz.prog 9 #[CV sl rs.length cap tl ps.length kap top pr st bu bl bs.length cb pl ls.length cp] w fun e w' => e = .returned (.string ⟨(bdsT rs ps top pr st bu bs ls).toArray⟩) ∧ Below w.heap.size w w' := by
  have CR : Hid (∀ W, Below w.heap.size w W → Calls Tryz.prog 28 #[CV sl rs.length cap tl ps.length kap top pr st bu bl bs.length cb pl ls.length cp] W fun e w' => e = .returned (.bool (B (ClkR rs ps top pr st bu bs ls))) ∧ Below W.heap.size W w') := fun W hW => icr_any sl cap tl kap top pr st bu bl cb pl cp rs ps bs ls W hn hq hl hcp (hz.below hW) (hp.below hW) hw (hbs.below hW) (hls.below hW)
  have LB : Hid (B (ClkR rs ps top pr st bu bs ls) = true → ∀ W, Below w.heap.size w W → Calls Tryz.prog 29 #[.slice bl bs.length cb, BDF] W fun e w' => e = .returned (.string ⟨(bdsB bs).toArray⟩) ∧ Below W.heap.size W w') := fun hB W hW => by
    have h12 := clk_bds (B_true hB)
    exact lob_any bl cb bs W (by omega) h12.2 (hbs.below hW) (ht.below hW)
  have HT := Lib.hid (show bdsT rs ps top pr st bu bs ls = if B (ClkR rs ps top pr st bu bs ls) = true then bdsB bs else [] from rfl)
  clear hn hq hl hcp hz hp hw hbs hls ht
  generalize bdsT rs ps top pr st bu bs ls = tx at *
  generalize rs.length = n at *
  generalize ps.length = m at *
  generalize bs.length = q at *
  generalize ls.length = p at *
  generalize bdsB bs = bt at *
  have N0 := Lib.hid (new_at w (.cells (CC sl n cap tl m kap top pr st bu bl q cb pl p cp) 39))
  have B0 := Lib.hid (bA0 w (.cells (CC sl n cap tl m kap top pr st bu bl q cb pl p cp) 39))
  cases hB : B (ClkR rs ps top pr st bu bs ls) with
  | false =>
    rw [hB] at CR HT
    have HE := Lib.hid (show tx = [] by rw [HT.out]; simp)
    go_enter Tryz.func9, Tryz.ntmps9
    go_wp2_with fail
    refine (CR.out _ B0.out).mono ?_
    rintro e w1 ⟨rfl, b1⟩
    have D1 := Lib.hid (bT B0.out b1)
    go_wp2
    go_ret
    exact ⟨by rw [HE.out]; rfl, D1.out⟩
  | true =>
    have LB1 := Lib.hid (LB.out hB)
    rw [hB] at CR HT
    have HE := Lib.hid (show tx = bt by rw [HT.out]; simp)
    go_enter Tryz.func9, Tryz.ntmps9
    go_wp2_with fail
    refine (CR.out _ B0.out).mono ?_
    rintro e w1 ⟨rfl, b1⟩
    have D1 := Lib.hid (bT B0.out b1)
    obtain ⟨c0, c1, c2, c3, c4, c5, c6, c7, cf, cl⟩ := cells8 ((b1.block w.heap.size (by simp)).trans N0.out)
    clear b1
    go_wp2_with fail
    refine (LB1.out _ D1.out).mono ?_
    rintro e w2 ⟨rfl, b2⟩
    have D2 := Lib.hid (bT D1.out b2)
    go_wp2
    go_ret
    exact ⟨by rw [HE.out]; rfl, D2.out⟩

set_option maxRecDepth 100000 in
set_option maxHeartbeats 4000000 in
/-- spec.BidsText. -/
theorem sbt_any (sl : Option Addr) (cap : Nat) (tl : Option Addr) (kap : Nat) (top pr st bu : Int) (bl : Option Addr) (cb : Nat) (pl : Option Addr) (cp : Nat) (rs : List LSt) (ps : List LPr) (bs : List LPr) (ls : List LPl) (w : World) (hn : rs.length ≤ 1048576) (hq : bs.length ≤ 1048576) (hl : ls.length ≤ 1048576) (hz : Sts w sl rs) (hp : Prs w tl ps) (hbs : Prs w bl bs) (hls : Pls w pl ls) :
    Calls Tryz.prog 7 #[CV sl rs.length cap tl ps.length kap top pr st bu bl bs.length cb pl ls.length cp] w fun e w' => e = .returned (.string ⟨(bdsT rs ps top pr st bu bs ls).toArray⟩) ∧ Below w.heap.size w w' := by
  have CR : Hid (∀ W, Below w.heap.size w W → Calls Tryz.prog 21 #[CV sl rs.length cap tl ps.length kap top pr st bu bl bs.length cb pl ls.length cp] W fun e w' => e = .returned (.bool (B (ClkR rs ps top pr st bu bs ls))) ∧ Below W.heap.size W w') := fun W hW => by
    have := scr_any sl cap tl kap top pr st bu bl cb pl cp rs ps bs ls W hn hq hl (hz.below hW) (hp.below hW) (hbs.below hW) (hls.below hW)
    rwa [clk_B] at this
  have HT := Lib.hid (show bdsT rs ps top pr st bu bs ls = if B (ClkR rs ps top pr st bu bs ls) = true then bdsB bs else [] from rfl)
  have HB12 : Hid (B (ClkR rs ps top pr st bu bs ls) = true → bs.length ≤ 12 ∧ WfBs bs) := fun h => clk_bds (B_true h)
  have HZ := Lib.hid hbs
  clear hn hq hl hz hp hbs hls
  generalize bdsT rs ps top pr st bu bs ls = tx at *
  generalize rs.length = n at *
  generalize ps.length = m at *
  generalize hQ : bs.length = q at *
  have HN := Lib.hid hQ
  clear hQ
  generalize ls.length = p at *
  have N0 := Lib.hid (new_at w (.cells (CC sl n cap tl m kap top pr st bu bl q cb pl p cp) 39))
  have B0 := Lib.hid (bA0 w (.cells (CC sl n cap tl m kap top pr st bu bl q cb pl p cp) 39))
  cases hB : B (ClkR rs ps top pr st bu bs ls) with
  | false =>
    rw [hB] at CR HT
    have HE := Lib.hid (show tx = [] by rw [HT.out]; simp)
    go_enter Tryz.func7, Tryz.ntmps7
    go_wp2_with fail
    refine (CR.out _ B0.out).mono ?_
    rintro e w1 ⟨rfl, b1⟩
    have D1 := Lib.hid (bT B0.out b1)
    go_wp2
    go_ret
    exact ⟨by rw [HE.out]; rfl, D1.out⟩
  | true =>
    obtain ⟨h12, HWB⟩ := HB12.out hB
    rw [hB] at CR HT
    have HE := Lib.hid (show tx = bdsB bs by rw [HT.out]; simp)
    have HW := Lib.hid HWB
    have AL := Lib.hid (bdsB_le bs HWB)
    clear HWB HB12 HT
    go_enter Tryz.func7, Tryz.ntmps7
    go_wp2_with fail
    refine (CR.out _ B0.out).mono ?_
    rintro e w1 ⟨rfl, b1⟩
    have D1 := Lib.hid (bT B0.out b1)
    have M1 := Lib.hid ((b1.block w.heap.size (by simp)).trans N0.out)
    have hs1 := b1.size
    simp at hs1
    clear b1 CR N0 B0
    go_wp2
    go_loopw [3, 4] (fun s i wr => ∃ (k : Nat) (l : List UInt8), s = .string ⟨l.toArray⟩ ∧ i = .int .i64 k ∧ k ≤ q ∧ Hid (l = bdsB (bs.take k)) ∧ Hid (Below w1.heap.size w1 wr)) (fun _ i _ => q - (intOf i).toNat)
    case atStart => exact ⟨0, [], rfl, rfl, Nat.zero_le _, (by show [] = bdsB (bs.take 0); simp [bdsB]), Below.refl _ _⟩
    case round =>
      obtain ⟨k, l, rfl, rfl, hk, HL, HB⟩ := hrel
      have hk0 : (0 : Int) ≤ (k : Int) := by omega
      obtain ⟨c0, c1, c2, c3, c4, c5, c6, c7, cf, cl⟩ := cells8 ((HB.out.block w.heap.size (by omega)).trans M1.out)
      by_cases g1 : k < q
      · have g1' : (k : Int) < (q : Int) := by omega
        have hlt : k < bs.length := by rw [HN.out]; exact g1
        obtain ⟨c, o, rfl, Z0⟩ : ∃ c o, bl = some ⟨c, o, none⟩ ∧ PrAt w c o bs := by
          rcases HZ.out with e | h
          · rw [e] at hlt; simp at hlt
          · exact h
        obtain ⟨hc0, hc1, hc2⟩ := ((Z0.below D1.out).below HB.out).cell k hlt
        have S1 := Lib.hid (bdsB_step bs k hlt)
        have LL := Lib.hid (AL.out k)
        obtain ⟨x, y, z, hp⟩ : ∃ x y z, bs[k] = (x, y, z) := ⟨_, _, _, rfl⟩
        have HWk := HW.out _ (List.getElem_mem hlt)
        rw [hp] at hc0 hc1 hc2 S1 HWk
        dsimp only at hc0 hc1 hc2 HWk
        have KB : Hid (∀ W, Below (wr.alloc (.cells #[.int .i64 x, .int .i64 y, .int .i64 z] 58)).heap.size (wr.alloc (.cells #[.int .i64 x, .int .i64 y, .int .i64 z] 58)) W → wr.heap.size < W.heap.size ∧ W.cell? ⟨wr.heap.size, 0, none⟩ = some (.int .i64 x) ∧ W.cell? ⟨wr.heap.size, 1, none⟩ = some (.int .i64 y) ∧ W.cell? ⟨wr.heap.size, 2, none⟩ = some (.int .i64 z)) := fun W hW => by
          have hs := hW.size
          simp at hs
          exact ⟨by omega, (hW.cell (by simp)).trans (by rw [World.cell?_alloc_new]; rfl), (hW.cell (by simp)).trans (by rw [World.cell?_alloc_new]; rfl), (hW.cell (by simp)).trans (by rw [World.cell?_alloc_new]; rfl)⟩
        have E1 := Lib.hid (fun W => dec_any x (wfI_bd HWk) W)
        have E2 := Lib.hid (fun W => ssname_any y W)
        have E3 := Lib.hid (fun W => smt_any z W)
        have hd1 := itoa_all x HWk
        have hd2 := nameL_le y
        have hd3 := mtextOf_le z
        have PL := Lib.hid (show bdB (x, y, z) = Lib.itoa x ++ [32] ++ nameL y ++ [32] ++ mtextOf z ++ [10] from line3 _ _ _)
        have hll : l.length ≤ 54 * k := by rw [HL.out]; exact LL.out
        have B1 := Lib.hid (bA0 wr (.cells #[.int .i64 x, .int .i64 y, .int .i64 z] 58))
        clear hlt hp Z0 HWk
        generalize bdB (x, y, z) = d at *
        generalize Lib.itoa x = d1 at *
        generalize nameL y = d2 at *
        generalize mtextOf z = d3 at *
        have s1 : ¬ 9223372036854775807 < l.length + d1.length := by omega
        have s2 : ¬ 9223372036854775807 < l.length + d1.length + 1 := by omega
        have s3 : ¬ 9223372036854775807 < l.length + d1.length + 1 + d2.length := by omega
        have s4 : ¬ 9223372036854775807 < l.length + d1.length + 1 + d2.length + 1 := by omega
        have s5 : ¬ 9223372036854775807 < l.length + d1.length + 1 + d2.length + 1 + d3.length := by omega
        have s6 : ¬ 9223372036854775807 < l.length + d1.length + 1 + d2.length + 1 + d3.length + 1 := by omega
        go_wp2_with fail
        generalize hw0 : wr.alloc (.cells #[.int .i64 x, .int .i64 y, .int .i64 z] 58) = w0 at *
        refine wp_region_held_drew (S := fun W => wr.heap.size < W.heap.size ∧ W.cell? ⟨wr.heap.size, 0, none⟩ = some (.int .i64 x) ∧ W.cell? ⟨wr.heap.size, 1, none⟩ = some (.int .i64 y) ∧ W.cell? ⟨wr.heap.size, 2, none⟩ = some (.int .i64 z)) (by kernel_rfl) ?_ (fun hHeld => ?_)
        · exact KB.out _ (Below.refl _ _).drew
        refine wpAnyH_take (i := 0) (oi := _) (v := ?_) rfl (by kernel_rfl) (by kernel_rfl) (by kernel_rfl) (fun _ _ _ h => h) (Or.inl ⟨by rfl, ?_⟩) (by assumption) ?_
        rotate_left
        · first | (intro w hSw; (try dsimp only at hSw); go_simp; done) | (intro w hSw; (try dsimp only at hSw); go_simp; with_reducible rfl)
        try simp only [Act.put, List.setIfInBounds_toArray, List.set_cons_zero, List.set_cons_succ, List.getElem_toArray, List.getElem_cons_zero]
        refine wpAnyH_take (i := 1) (oi := _) (v := ?_) rfl (by kernel_rfl) (by kernel_rfl) (by kernel_rfl) (fun _ _ _ h => h) (Or.inl ⟨by rfl, ?_⟩) (by assumption) ?_
        rotate_left
        · first | (intro w hSw; (try dsimp only at hSw); go_simp; done) | (intro w hSw; (try dsimp only at hSw); go_simp; with_reducible rfl)
        try simp only [Act.put, List.setIfInBounds_toArray, List.set_cons_zero, List.set_cons_succ, List.getElem_toArray, List.getElem_cons_succ, List.getElem_cons_zero]
        refine wpAnyH_take (i := 2) (oi := _) (v := ?_) rfl (by kernel_rfl) (by kernel_rfl) (by kernel_rfl) (fun _ _ _ h => h) (Or.inl ⟨by rfl, ?_⟩) (by assumption) ?_
        rotate_left
        · first | (intro w hSw; (try dsimp only at hSw); go_simp; done) | (intro w hSw; (try dsimp only at hSw); go_simp; with_reducible rfl)
        try simp only [Act.put, List.setIfInBounds_toArray, List.set_cons_zero, List.set_cons_succ, List.getElem_toArray, List.getElem_cons_succ, List.getElem_cons_zero]
        refine wpAnyH_take (i := 6) (oi := _) (v := ?_) rfl (by kernel_rfl) (by kernel_rfl) (by kernel_rfl) (fun _ _ _ h => h) (Or.inl ⟨by rfl, ?_⟩) (by assumption) ?_
        rotate_left
        · first | (intro w hSw; (try dsimp only at hSw); go_simp; done) | (intro w hSw; (try dsimp only at hSw); go_simp; with_reducible rfl)
        try simp only [Act.put, List.setIfInBounds_toArray, List.set_cons_zero, List.set_cons_succ, List.getElem_toArray, List.getElem_cons_succ, List.getElem_cons_zero]
        refine wpAnyH_take (i := 7) (oi := _) (v := ?_) rfl (by kernel_rfl) (by kernel_rfl) (by kernel_rfl) (fun _ _ _ h => h) (Or.inl ⟨by rfl, ?_⟩) (by assumption) ?_
        rotate_left
        · first | (intro w hSw; (try dsimp only at hSw); go_simp; done) | (intro w hSw; (try dsimp only at hSw); go_simp; with_reducible rfl)
        try simp only [Act.put, List.setIfInBounds_toArray, List.set_cons_zero, List.set_cons_succ, List.getElem_toArray, List.getElem_cons_succ, List.getElem_cons_zero]
        refine wpAnyH_take (i := 11) (oi := _) (v := ?_) rfl (by kernel_rfl) (by kernel_rfl) (by kernel_rfl) (fun _ _ _ h => h) (Or.inl ⟨by rfl, ?_⟩) (by assumption) ?_
        rotate_left
        · first | (intro w hSw; (try dsimp only at hSw); go_simp; done) | (intro w hSw; (try dsimp only at hSw); go_simp; with_reducible rfl)
        try simp only [Act.put, List.setIfInBounds_toArray, List.set_cons_zero, List.set_cons_succ, List.getElem_toArray, List.getElem_cons_succ, List.getElem_cons_zero]
        refine wpAnyH_take (i := 12) (oi := _) (v := ?_) rfl (by kernel_rfl) (by kernel_rfl) (by kernel_rfl) (fun _ _ _ h => h) (Or.inl ⟨by rfl, ?_⟩) (by assumption) ?_
        rotate_left
        · first | (intro w hSw; (try dsimp only at hSw); go_simp; done) | (intro w hSw; (try dsimp only at hSw); go_simp; with_reducible rfl)
        try simp only [Act.put, List.setIfInBounds_toArray, List.set_cons_zero, List.set_cons_succ, List.getElem_toArray, List.getElem_cons_succ, List.getElem_cons_zero]
        refine wpAnyH_ready (rs := [3]) (by kernel_rfl) (by simp) ?_
        refine AllReadyH.cons rfl (fun K hK => ?_) AllReadyH.nil
        go_simp
        go_wp2_with (go_at_call 22; refine (E1.out _).mono ?_; rintro e w2 ⟨rfl, b1⟩)
        have F2 : Hid (Below w0.heap.size w0 w2) := bT (Below.refl w0.heap.size w0).drew b1
        clear b1
        refine hK.out _ _ ?_ (fun hHeld => ?_)
        · exact KB.out _ F2.out
        clear hK K
        refine wpAnyH_take (i := 4) (oi := _) (v := ?_) rfl (by kernel_rfl) (by kernel_rfl) (by kernel_rfl) (fun _ _ _ h => h) (Or.inl ⟨by rfl, ?_⟩) (by assumption) ?_
        rotate_left
        · first | (intro w hSw; (try dsimp only at hSw); go_simp; done) | (intro w hSw; (try dsimp only at hSw); go_simp; with_reducible rfl)
        try simp only [Act.put, List.setIfInBounds_toArray, List.set_cons_zero, List.set_cons_succ, List.getElem_toArray, List.getElem_cons_succ, List.getElem_cons_zero]
        refine wpAnyH_take (i := 5) (oi := _) (v := ?_) rfl (by kernel_rfl) (by kernel_rfl) (by kernel_rfl) (fun _ _ _ h => h) (Or.inl ⟨by rfl, ?_⟩) (by assumption) ?_
        rotate_left
        · first | (intro w hSw; (try dsimp only at hSw); go_simp; done) | (intro w hSw; (try dsimp only at hSw); go_simp; with_reducible rfl)
        try simp only [Act.put, List.setIfInBounds_toArray, List.set_cons_zero, List.set_cons_succ, List.getElem_toArray, List.getElem_cons_succ, List.getElem_cons_zero]
        refine wpAnyH_ready (rs := [8]) (by kernel_rfl) (by simp) ?_
        refine AllReadyH.cons rfl (fun K hK => ?_) AllReadyH.nil
        go_simp
        go_wp2_with (go_at_call 23; refine (E2.out _).mono ?_; rintro e w3 ⟨rfl, b1⟩)
        have F3 : Hid (Below w0.heap.size w0 w3) := bT F2.out b1
        clear b1
        refine hK.out _ _ ?_ (fun hHeld => ?_)
        · exact KB.out _ F3.out
        clear hK K
        refine wpAnyH_take (i := 9) (oi := _) (v := ?_) rfl (by kernel_rfl) (by kernel_rfl) (by kernel_rfl) (fun _ _ _ h => h) (Or.inl ⟨by rfl, ?_⟩) (by assumption) ?_
        rotate_left
        · first | (intro w hSw; (try dsimp only at hSw); go_simp; done) | (intro w hSw; (try dsimp only at hSw); go_simp; with_reducible rfl)
        try simp only [Act.put, List.setIfInBounds_toArray, List.set_cons_zero, List.set_cons_succ, List.getElem_toArray, List.getElem_cons_succ, List.getElem_cons_zero]
        refine wpAnyH_take (i := 10) (oi := _) (v := ?_) rfl (by kernel_rfl) (by kernel_rfl) (by kernel_rfl) (fun _ _ _ h => h) (Or.inl ⟨by rfl, ?_⟩) (by assumption) ?_
        rotate_left
        · first | (intro w hSw; (try dsimp only at hSw); go_simp; done) | (intro w hSw; (try dsimp only at hSw); go_simp; with_reducible rfl)
        try simp only [Act.put, List.setIfInBounds_toArray, List.set_cons_zero, List.set_cons_succ, List.getElem_toArray, List.getElem_cons_succ, List.getElem_cons_zero]
        refine wpAnyH_ready (rs := [13]) (by kernel_rfl) (by simp) ?_
        refine AllReadyH.cons rfl (fun K hK => ?_) AllReadyH.nil
        go_simp
        go_wp2_with (go_at_call 24; refine (E3.out _).mono ?_; rintro e w4 ⟨rfl, b1⟩)
        have F4 : Hid (Below w0.heap.size w0 w4) := bT F3.out b1
        clear b1
        refine hK.out _ _ ?_ (fun hHeld => ?_)
        · exact KB.out _ F4.out
        clear hK K
        refine wpAnyH_take (i := 14) (oi := _) (v := ?_) rfl (by kernel_rfl) (by kernel_rfl) (by kernel_rfl) (fun _ _ _ h => h) (Or.inl ⟨by rfl, ?_⟩) (by assumption) ?_
        rotate_left
        · first | (intro w hSw; (try dsimp only at hSw); go_simp; done) | (intro w hSw; (try dsimp only at hSw); go_simp; with_reducible rfl)
        try simp only [Act.put, List.setIfInBounds_toArray, List.set_cons_zero, List.set_cons_succ, List.getElem_toArray, List.getElem_cons_succ, List.getElem_cons_zero]
        refine wpAnyH_take (i := 15) (oi := _) (v := ?_) rfl (by kernel_rfl) (by kernel_rfl) (by kernel_rfl) (fun _ _ _ h => h) (Or.inl ⟨by rfl, ?_⟩) (by assumption) ?_
        rotate_left
        · first | (intro w hSw; (try dsimp only at hSw); go_simp; done) | (intro w hSw; (try dsimp only at hSw); go_simp; with_reducible rfl)
        try simp only [Act.put, List.setIfInBounds_toArray, List.set_cons_zero, List.set_cons_succ, List.getElem_toArray, List.getElem_cons_succ, List.getElem_cons_zero]
        refine wpAnyH_take (i := 16) (oi := _) (v := ?_) rfl (by kernel_rfl) (by kernel_rfl) (by kernel_rfl) (fun _ _ _ h => h) (Or.inl ⟨by rfl, ?_⟩) (by assumption) ?_
        rotate_left
        · first | (intro w hSw; (try dsimp only at hSw); go_simp; done) | (intro w hSw; (try dsimp only at hSw); go_simp; with_reducible rfl)
        try simp only [Act.put, List.setIfInBounds_toArray, List.set_cons_zero, List.set_cons_succ, List.getElem_toArray, List.getElem_cons_succ, List.getElem_cons_zero]
        refine wpAnyH_done (by kernel_rfl) ?_ _
        have e1 : ((⟨l.toArray⟩ : ByteArray) ++ ⟨d1.toArray⟩ ++ ⟨#[32]⟩ ++ ⟨d2.toArray⟩ ++ ⟨#[32]⟩ ++ ⟨d3.toArray⟩ ++ ⟨#[10]⟩) = ⟨(l ++ d).toArray⟩ := by
          have h1 := ba_app l d1
          have h2 := ba_app (l ++ d1) [32]
          have h3 := ba_app (l ++ d1 ++ [32]) d2
          have h4 := ba_app (l ++ d1 ++ [32] ++ d2) [32]
          have h5 := ba_app (l ++ d1 ++ [32] ++ d2 ++ [32]) d3
          have h6 := ba_app (l ++ d1 ++ [32] ++ d2 ++ [32] ++ d3) [10]
          rw [PL.out, show l ++ (d1 ++ [32] ++ d2 ++ [32] ++ d3 ++ [10]) = l ++ d1 ++ [32] ++ d2 ++ [32] ++ d3 ++ [10] by simp, ← h6, ← h5, ← h4, ← h3, ← h2, ← h1]
        have NL : Hid (l ++ d = bdsB (bs.take (k + 1))) := by rw [S1.out, HL.out]; exact Lib.hid rfl
        have BB := Lib.hid (HB.out.trans ((bT B1.out F4.out).mono HB.out.size))
        clear KB E1 E2 E3 F2 F3 F4 HL HB hc0 hc1 hc2
        go_wp2
        go_roundw
        case rel => exact ⟨k + 1, l ++ d, by rw [← e1], by go_num, by omega, NL, BB⟩
        case measure => simp [intOf]; omega
      · have g1' : ¬ (k : Int) < (q : Int) := by omega
        have NL : Hid (l = bdsB bs) := by
          have := HL.out
          rwa [List.take_of_length_le (by rw [HN.out]; omega)] at this
        have DD := Lib.hid (bT D1.out HB.out)
        clear HL
        go_wp2
        go_ret
        exact ⟨by rw [HE.out, NL.out]; rfl, DD.out⟩
end Go.Proofs.YtanoklpffenljaaGreatDoor
