/-
  A TABLE, A TOP, IDS AND A BUDGET, DRAWN: DrawPlanFind.
-/
import Derived.Test.YtgfclllfkpblnaaBa
import Derived.Test.YtgfclllfkpblnaaSg
namespace Go.Proofs.Ytgfclllfkpblnaa
open Go.RowKit
set_option linter.unusedVariables false
set_option linter.unusedSimpArgs false

/-- What is drawn. -/
def DfPost (w : World) (e : Ending) (w' : World) : Prop :=
  ∃ (s1 : Option Addr) (c1 : Nat) (s2 : Option Addr) (c2 : Nat) (rs : List LSt) (ps : List LPr) (top : Int) (v : Value) (zs : List Int) (bd : Int), e = .returned (.tuple #[TV s1 rs.length c1 s2 ps.length c2, .int .i64 top, v, .int .i64 bd]) ∧ rs.length ≤ 14 ∧ (∀ p ∈ ps, WfP p) ∧ Sts w' s1 rs ∧ Prs w' s2 ps ∧ zs.length ≤ 15 ∧ (∃ C, C ≤ w'.heap.size ∧ w'.ownsRow C 2 1 v zs.length (valsZ zs)) ∧ Below w.heap.size w w'
/-- All but two blocks are as they were. -/
structure But2 (b r : Nat) (u v : World) : Prop where
  size : u.heap.size ≤ v.heap.size
  block : ∀ k, k < u.heap.size → k ≠ b → k ≠ r → v.heap[k]? = u.heap[k]?
theorem But2.of {b r : Nat} {u v : World} (h : Only b u v) : But2 b r u v := ⟨h.size, fun k hk hb _ => h.block k hk hb⟩
theorem But2.trans {b r : Nat} {u v w : World} (h : But2 b r u v) (g : But2 b r v w) : But2 b r u w := ⟨Nat.le_trans h.size g.size, fun k hk hb hr => (g.block k (Nat.lt_of_lt_of_le hk h.size) hb hr).trans (h.block k hk hb hr)⟩
theorem But2.set {b r : Nat} {u v : World} (h : But2 b r u v) (o : Nat) (x : Value) : But2 b r u (v.setCell ⟨r, o, none⟩ x) := ⟨by simpa [World.setCell] using h.size, fun k hk hb hr => (Below.heap_setCell _ _ _ _ (by show k ≠ r; omega)).trans (h.block k hk hb hr)⟩

theorem SrcB.setRes2 {B b : Nat} {W : World} (h : SrcB B W b) (r : Nat) (hr : r ≠ b) (hR : W.heap[r]? = some (.cells #[.slice none 0 0, .slice none 0 0] 26)) (x y : Value) : SrcB B ((W.setCell ⟨r, 0, none⟩ x).setCell ⟨r, 1, none⟩ y) b := by
  have keep : ∀ k, k ≠ r → ((W.setCell ⟨r, 0, none⟩ x).setCell ⟨r, 1, none⟩ y).heap[k]? = W.heap[k]? := fun k hk => (Below.heap_setCell _ _ _ _ hk).trans (Below.heap_setCell _ _ _ _ hk)
  have hsz : ((W.setCell ⟨r, 0, none⟩ x).setCell ⟨r, 1, none⟩ y).heap.size = W.heap.size := by simp [World.setCell]
  obtain ⟨h0, h1, sl, len, cap, k, mix, sz, h, hb, hB, hkl, rest⟩ := h
  refine ⟨h0, by rw [hsz]; exact h1, sl, len, cap, k, mix, sz, (keep b (fun e => hr e.symm)).trans h, fun i hi => ?_, hB, hkl, rest⟩
  obtain ⟨c, o, z, e, hc, hlt, y1, y2, hz⟩ := hb i hi
  have hcr : c ≠ r := by
    rintro rfl
    have hz' : (#[Value.slice none 0 0, Value.slice none 0 0] : Array Value)[o + i]? = some (.int .u8 z) := by
      have := hz
      simpa [World.cell?, hR] using this
    rcases Nat.lt_or_ge (o + i) 2 with h2 | h2
    · have : o + i = 0 ∨ o + i = 1 := by omega
      rcases this with h3 | h3 <;> rw [h3] at hz' <;> simp at hz'
    · rw [Array.getElem?_eq_none (by simpa using h2)] at hz'; cases hz'
  exact ⟨c, o, z, e, hc, by rw [hsz]; exact hlt, y1, y2, (World.cell?_of_block (w := W) (keep c hcr)).trans hz⟩


set_option maxRecDepth 100000 in
set_option maxHeartbeats 8000000 in
/-- spec.DrawPlanFind. -/
theorem dpf_any (sl : Option Addr) (len cap : Nat) (w : World) (hr : RowIn w sl len) :
    Calls Try.prog 4 #[.slice sl len cap] w fun e w' => DfPost w e w' := by
  have HS := Lib.hid (source_any sl len cap (w.alloc (.cells #[.slice none 0 0, .slice none 0 0] 26)) (hr.below (bA0 _ _)))
  have R0 := Lib.hid (new_at w (.cells #[.slice none 0 0, .slice none 0 0] 26))
  have B0 := Lib.hid (bA0 w (.cells #[.slice none 0 0, .slice none 0 0] 26))
  have hz : (w.alloc (.cells #[.slice none 0 0, .slice none 0 0] 26)).heap.size = w.heap.size + 1 := by simp
  clear hr
  go_enter Try.func4, Try.ntmps4
  go_wp2_with fail
  generalize w.alloc (.cells #[.slice none 0 0, .slice none 0 0] 26) = w0 at *
  refine HS.out.mono ?_
  rintro e w1 ⟨rfl, s1, b1⟩
  rw [hz] at s1 b1
  have T1 := Lib.hid (tab_any (w.heap.size + 1) w1 s1)
  have B1 := Lib.hid (B0.out.trans (b1.mono (by omega)))
  have R1 := Lib.hid ((b1.block w.heap.size (by omega)).trans R0.out)
  have h1z : w.heap.size + 1 < w1.heap.size := s1.lt
  clear s1 b1 HS R0 B0
  rw [hz]
  go_wp2_with fail
  refine T1.out.mono ?_
  rintro e w2 ⟨sl1, cap1, sl2, cap2, rs, ps, rfl, h1, h2, hw, sr, ho, hk⟩
  have R2 := Lib.hid ((ho.block w.heap.size (by omega) (by omega)).trans R1.out)
  have hs2 := ho.size
  have B2 : Hid (Below w.heap.size w w2) := ho.below B1.out (by omega)
  have b3 := bA0 w2 (.cells #[.slice sl1 rs.length cap1, .slice sl2 ps.length cap2] 26)
  have SB3 := Lib.hid ((SrcB.of sr).below b3)
  have B3 := Lib.hid (B2.out.alloc (by omega) (.cells #[.slice sl1 rs.length cap1, .slice sl2 ps.length cap2] 26))
  have R3 := Lib.hid ((b3.block w.heap.size (by omega)).trans R2.out)
  have hz3 : (w2.alloc (.cells #[.slice sl1 rs.length cap1, .slice sl2 ps.length cap2] 26)).heap.size = w2.heap.size + 1 := by simp
  have K3 : Hid (∀ W, But2 (w.heap.size + 1) w.heap.size (w2.alloc (.cells #[.slice sl1 rs.length cap1, .slice sl2 ps.length cap2] 26)) W → Sts W sl1 rs ∧ Prs W sl2 ps) := fun W a => hk W (Nat.le_trans b3.size a.size) (fun k k1 k2 => (a.block k (by omega) (by omega) (by omega)).trans (b3.block k k2))
  have TB := Lib.hid (TabAt.new w2 sl1 rs.length cap1 sl2 ps.length cap2)
  have LI : Hid (∀ W, Only (w.heap.size + 1) (w2.alloc (.cells #[.slice sl1 rs.length cap1, .slice sl2 ps.length cap2] 26)) W → SrcB w2.heap.size W (w.heap.size + 1) → Calls Try.prog 19 #[.pointer (some ⟨w.heap.size + 1, 0, none⟩), TV sl1 rs.length cap1 sl2 ps.length cap2] W fun e w' => ∃ v zs, e = .returned v ∧ List.length zs ≤ 15 ∧ w'.ownsRow W.heap.size 2 1 v zs.length (valsZ zs) ∧ SrcB w2.heap.size w' (w.heap.size + 1) ∧ Only (w.heap.size + 1) W w') := fun W a s => lids_any w2.heap.size (w.heap.size + 1) sl1 cap1 sl2 ps.length cap2 rs W h1 s (fun W' a' => (K3.out W' ((But2.of a).trans (But2.of a'))).1)
  have HW := Lib.hid hw
  clear sr ho hk T1 R1 B1 hw b3 R2
  generalize hN : rs.length = n at *
  have HN := Lib.hid hN
  clear hN
  generalize hMM : ps.length = m at *
  have HM := Lib.hid hMM
  clear hMM
  go_wp2_with fail
  generalize w2.alloc (.cells #[.slice sl1 n cap1, .slice sl2 m cap2] 26) = w3 at *
  have KT : Hid (∀ W, Only (w.heap.size + 1) w3 W → w2.heap.size < W.heap.size ∧ W.cell? ⟨w2.heap.size, 0, none⟩ = some (.slice sl1 n cap1) ∧ W.cell? ⟨w2.heap.size, 1, none⟩ = some (.slice sl2 m cap2)) := fun W a => by
    have : TabAt W w2.heap.size sl1 n cap1 sl2 m cap2 := (a.block w2.heap.size TB.out.lt (by omega)).trans TB.out
    exact ⟨this.lt, this.cells⟩
  refine (top_any w2.heap.size (w.heap.size + 1) w3 SB3.out).mono ?_
  rintro e w4 ⟨top, rfl, s4, o4⟩
  have H4 : Hid (SrcB w2.heap.size w4 (w.heap.size + 1) ∧ Only (w.heap.size + 1) w3 w4) := ⟨s4, o4⟩
  clear s4 o4 SB3 TB
  go_wp2_with fail
  refine (oneB_any w2.heap.size (w.heap.size + 1) 3 w4 (by decide) H4.out.1).mono ?_
  rintro e w5 ⟨t, rfl, s5, o5⟩
  have H5 : Hid (SrcB w2.heap.size w5 (w.heap.size + 1) ∧ Only (w.heap.size + 1) w3 w5) := ⟨s5, H4.out.2.trans o5⟩
  clear s5 o5 H4
  cases t with
  | false =>
    have H := H5
    clear H5
    go_wp2_with fail
    refine (oneB_any w2.heap.size (w.heap.size + 1) 30 w5 (by decide) H.out.1).mono ?_
    rintro e w8 ⟨t, rfl, s8, o8⟩
    have H8 : Hid (SrcB w2.heap.size w8 (w.heap.size + 1) ∧ Only (w.heap.size + 1) w3 w8) := ⟨s8, H.out.2.trans o8⟩
    clear s8 o8 H
    cases t with
    | false =>
      have HZ := H8
      clear H8
      have D0 : Hid (But2 (w.heap.size + 1) w.heap.size w8 w8.drew) := ⟨Nat.le_refl _, fun _ _ _ _ => rfl⟩
      have SD : Hid (SrcB w2.heap.size w8.drew (w.heap.size + 1)) := ⟨HZ.out.1.1, HZ.out.1.2.1, HZ.out.1.2.2⟩
      have ND : Hid (Only (w.heap.size + 1) w3 w8.drew) := HZ.out.2.drew
      clear HZ D0
      go_wp2_with fail
      refine wp_region_held_drew (S := fun W => w2.heap.size < W.heap.size ∧ W.cell? ⟨w2.heap.size, 0, none⟩ = some (.slice sl1 n cap1) ∧ W.cell? ⟨w2.heap.size, 1, none⟩ = some (.slice sl2 m cap2)) (by kernel_rfl) ?_ (fun hHeld => ?_)
      · exact KT.out _ ND.out
      generalize w8.drew = wz at *
      refine wpAnyH_take (i := 0) (oi := _) (v := ?_) rfl (by kernel_rfl) (by kernel_rfl) (by kernel_rfl) (fun _ _ _ h => h) (Or.inl ⟨by rfl, ?_⟩) (by assumption) ?_
      rotate_left
      · first | (intro w hSw; (try dsimp only at hSw); go_simp; done) | (intro w hSw; (try dsimp only at hSw); go_simp; with_reducible rfl)
      try simp only [Act.put, List.setIfInBounds_toArray, List.set_cons_zero, List.set_cons_succ, List.getElem_toArray, List.getElem_cons_zero]
      refine wpAnyH_take (i := 1) (oi := _) (v := ?_) rfl (by kernel_rfl) (by kernel_rfl) (by kernel_rfl) (fun _ _ _ h => h) (Or.inl ⟨by rfl, ?_⟩) (by assumption) ?_
      rotate_left
      · first | (intro w hSw; (try dsimp only at hSw); go_simp; done) | (intro w hSw; (try dsimp only at hSw); go_simp; with_reducible rfl)
      try simp only [Act.put, List.setIfInBounds_toArray, List.set_cons_zero, List.set_cons_succ, List.getElem_toArray, List.getElem_cons_succ, List.getElem_cons_zero]
      refine wpAnyH_take (i := 2) (oi := _) (v := ?_) rfl (by kernel_rfl) (by kernel_rfl) (by kernel_rfl) (fun _ _ _ h => h) (Or.inl ⟨by rfl, ?_⟩) (by assumption) ?_
      rotate_left
      · first | (intro w hSw; (try dsimp only at hSw); go_simp; done) | (intro w hSw; (try dsimp only at hSw); go_simp; with_reducible rfl)
      try simp only [Act.put, List.setIfInBounds_toArray, List.set_cons_zero, List.set_cons_succ, List.getElem_toArray, List.getElem_cons_succ, List.getElem_cons_zero]
      refine wpAnyH_take (i := 3) (oi := _) (v := ?_) rfl (by kernel_rfl) (by kernel_rfl) (by kernel_rfl) (fun _ _ _ h => h) (Or.inl ⟨by rfl, ?_⟩) (by assumption) ?_
      rotate_left
      · first | (intro w hSw; (try dsimp only at hSw); go_simp; done) | (intro w hSw; (try dsimp only at hSw); go_simp; with_reducible rfl)
      try simp only [Act.put, List.setIfInBounds_toArray, List.set_cons_zero, List.set_cons_succ, List.getElem_toArray, List.getElem_cons_succ, List.getElem_cons_zero]
      refine wpAnyH_take (i := 5) (oi := _) (v := ?_) rfl (by kernel_rfl) (by kernel_rfl) (by kernel_rfl) (fun _ _ _ h => h) (Or.inl ⟨by rfl, ?_⟩) (by assumption) ?_
      rotate_left
      · first | (intro w hSw; (try dsimp only at hSw); go_simp; done) | (intro w hSw; (try dsimp only at hSw); go_simp; with_reducible rfl)
      try simp only [Act.put, List.setIfInBounds_toArray, List.set_cons_zero, List.set_cons_succ, List.getElem_toArray, List.getElem_cons_succ, List.getElem_cons_zero]
      clear hHeld
      refine wpAnyH_ready (rs := [4]) (by kernel_rfl) (by simp) ?_
      refine AllReadyH.cons rfl (fun K hK => ?_) AllReadyH.nil
      go_simp
      go_wp2_with (go_at_call 19; refine (LI.out wz ND.out SD.out).mono ?_; rintro e w6 ⟨v, zs, rfl, hzs, o6, s6, n6⟩)
      have N6 := Lib.hid (ND.out.trans n6)
      obtain ⟨vs, vk, rfl⟩ := own_v o6
      have R6 : Hid (w6.heap[w.heap.size]? = some (.cells #[.slice none 0 0, .slice none 0 0] 26)) := (N6.out.block w.heap.size (by omega) (by omega)).trans R3.out
      refine hK.out _ _ ?_ (fun hHeld => ?_)
      · exact KT.out _ N6.out
      clear hK K s6
      have FIN : Hid (∀ W, But2 (w.heap.size + 1) w.heap.size w6 W → Below w.heap.size w W → DfPost w (.returned (.tuple #[TV sl1 n cap1 sl2 m cap2, .int .i64 top, .slice vs zs.length vk, .int .i64 (500)])) W) := fun W a bl => by
        obtain ⟨x1, x2⟩ := K3.out W ((But2.of N6.out).trans a)
        refine ⟨sl1, cap1, sl2, cap2, rs, ps, top, .slice vs zs.length vk, zs, _, by rw [HN.out, HM.out], by rw [HN.out]; exact h1, HW.out, x1, x2, hzs, ⟨wz.heap.size, by have := a.size; have := n6.size; omega, own_keep o6 (fun j hj => ?_)⟩, bl⟩
        have hj1 := own_base o6 hj
        have hj2 := (o6.lt j hj).2
        have hj3 := ND.out.size
        exact a.block j hj2 (by omega) (by omega)
      have B6 : Hid (Below w.heap.size w w6) := N6.out.below B3.out (by omega)
      generalize zs.length = zn at *
      clear o6 n6 LI SD
      refine wpAnyH_ready (rs := [6]) (by kernel_rfl) (by simp) ?_
      refine AllReadyH.cons rfl (fun K hK => ?_) AllReadyH.nil
      have R7 := heap_setCell_same _ w.heap.size 1 _ 26 (.slice sl2 m cap2) (heap_setCell_same w6 w.heap.size 0 _ 26 (.slice sl1 n cap1) R6.out)
      have c0 : w6.cell? ⟨w.heap.size, 0, none⟩ = some (.slice none 0 0) := by simp [World.cell?, R6.out]
      have c1 : w6.cell? ⟨w.heap.size, 1, none⟩ = some (.slice none 0 0) := by simp [World.cell?, R6.out]
      have f0 : w6.frozen? ⟨w.heap.size, 0, none⟩ = false := by simp [World.frozen?, R6.out]
      have f1 : w6.frozen? ⟨w.heap.size, 1, none⟩ = false := by simp [World.frozen?, R6.out]
      have lt7 : w.heap.size < w6.heap.size := (Array.getElem?_eq_some_iff.1 R6.out).1
      have hw23 : w.heap.size < w2.heap.size := by omega
      have KF : Hid ((fun W => w2.heap.size < W.heap.size ∧ W.cell? ⟨w2.heap.size, 0, none⟩ = some (.slice sl1 n cap1) ∧ W.cell? ⟨w2.heap.size, 1, none⟩ = some (.slice sl2 m cap2)) ((w6.setCell ⟨w.heap.size, 0, none⟩ (.slice sl1 n cap1)).setCell ⟨w.heap.size, 1, none⟩ (.slice sl2 m cap2))) := by
        have k := KT.out _ N6.out
        have e : ∀ i, ((w6.setCell ⟨w.heap.size, 0, none⟩ (.slice sl1 n cap1)).setCell ⟨w.heap.size, 1, none⟩ (.slice sl2 m cap2)).cell? ⟨w2.heap.size, i, none⟩ = w6.cell? ⟨w2.heap.size, i, none⟩ := fun i => World.cell?_of_block (w := w6) ((Below.heap_setCell _ _ _ _ (by show w2.heap.size ≠ w.heap.size; omega)).trans (Below.heap_setCell _ _ _ _ (by show w2.heap.size ≠ w.heap.size; omega)))
        exact ⟨by simpa [World.setCell] using k.1, (e 0).trans k.2.1, (e 1).trans k.2.2⟩
      have P := Lib.hid (FIN.out ((w6.setCell ⟨w.heap.size, 0, none⟩ (.slice sl1 n cap1)).setCell ⟨w.heap.size, 1, none⟩ (.slice sl2 m cap2)) (((But2.of (Only.refl _ _)).set 0 _).set 1 _) ((B6.out.setCell (Nat.le_refl _) _).setCell (Nat.le_refl _) _))
      have R7' := Lib.hid R7
      clear R7 hHeld
      go_simp
      refine hK.out _ _ ?_ (fun hHeld => ?_)
      · exact KF.out
      clear hK K c0 c1 f0 f1 lt7
      refine wpAnyH_take (i := 7) (oi := _) (v := ?_) rfl (by kernel_rfl) (by kernel_rfl) (by kernel_rfl) (fun _ _ _ h => h) (Or.inl ⟨by rfl, ?_⟩) (by assumption) ?_
      rotate_left
      · first | (intro w hSw; (try dsimp only at hSw); go_simp; done) | (intro w hSw; (try dsimp only at hSw); go_simp; with_reducible rfl)
      try simp only [Act.put, List.setIfInBounds_toArray, List.set_cons_zero, List.set_cons_succ, List.getElem_toArray, List.getElem_cons_succ, List.getElem_cons_zero]
      refine wpAnyH_take (i := 8) (oi := _) (v := ?_) rfl (by kernel_rfl) (by kernel_rfl) (by kernel_rfl) (fun _ _ _ h => h) (Or.inl ⟨by rfl, ?_⟩) (by assumption) ?_
      rotate_left
      · first | (intro w hSw; (try dsimp only at hSw); go_simp; done) | (intro w hSw; (try dsimp only at hSw); go_simp; with_reducible rfl)
      try simp only [Act.put, List.setIfInBounds_toArray, List.set_cons_zero, List.set_cons_succ, List.getElem_toArray, List.getElem_cons_succ, List.getElem_cons_zero]
      refine wpAnyH_take (i := 9) (oi := _) (v := ?_) rfl (by kernel_rfl) (by kernel_rfl) (by kernel_rfl) (fun _ _ _ h => h) (Or.inl ⟨by rfl, ?_⟩) (by assumption) ?_
      rotate_left
      · first | (intro w hSw; (try dsimp only at hSw); go_simp; done) | (intro w hSw; (try dsimp only at hSw); go_simp; with_reducible rfl)
      try simp only [Act.put, List.setIfInBounds_toArray, List.set_cons_zero, List.set_cons_succ, List.getElem_toArray, List.getElem_cons_succ, List.getElem_cons_zero]
      refine wpAnyH_done (by kernel_rfl) ?_ _
      have e5 : ((w6.setCell ⟨w.heap.size, 0, none⟩ (.slice sl1 n cap1)).setCell ⟨w.heap.size, 1, none⟩ (.slice sl2 m cap2)).cell? ⟨w.heap.size, 0, none⟩ = some (.slice sl1 n cap1) := by simp [World.cell?, R7'.out]
      have e6 : ((w6.setCell ⟨w.heap.size, 0, none⟩ (.slice sl1 n cap1)).setCell ⟨w.heap.size, 1, none⟩ (.slice sl2 m cap2)).cell? ⟨w.heap.size, 1, none⟩ = some (.slice sl2 m cap2) := by simp [World.cell?, R7'.out]
      clear KF FIN hHeld
      go_wp2
      exact bodyPost_ret (v := .tuple #[.agg #[.slice sl1 n cap1, .slice sl2 m cap2], .int .i64 top, .slice vs zn vk, .int .i64 (500)]) (by simp [results, Try.results4, go_sem, e5, e6]) rfl P.out
    | true =>
      have H9 : Hid (SrcB w2.heap.size (w8.alloc (.cells #[.int .i64 (-1), .int .i64 2000, .int .i64 2001] 2)) (w.heap.size + 1) ∧ Only (w.heap.size + 1) w3 (w8.alloc (.cells #[.int .i64 (-1), .int .i64 2000, .int .i64 2001] 2))) := ⟨H8.out.1.below (bA0 w8 _), H8.out.2.trans (Only.of_below (bA0 w8 _))⟩
      have L9 := Lib.hid (new_at w8 (.cells #[.int .i64 (-1), .int .i64 2000, .int .i64 2001] 2))
      have hw8 : w3.heap.size ≤ w8.heap.size := H8.out.2.size
      clear H8
      go_wp2_with fail
      generalize w8.alloc (.cells #[.int .i64 (-1), .int .i64 2000, .int .i64 2001] 2) = w9 at *
      refine (nB_lt w2.heap.size (w.heap.size + 1) 3 w9 (by decide) (by decide) H9.out.1).mono ?_
      rintro e w10 ⟨r, rfl, r0, r1, s10, o10⟩
      obtain ⟨j, rfl⟩ : ∃ j : Nat, r = (j : Int) := ⟨r.toNat, by omega⟩
      have hj3 : j < 3 := by omega
      have L10 := (o10.block w8.heap.size (Array.getElem?_eq_some_iff.1 L9.out).1 (by omega)).trans L9.out
      obtain ⟨bd, hbd⟩ : ∃ bd : Int, w10.cell? ⟨w8.heap.size, j, none⟩ = some (.int .i64 bd) := by
        have : j = 0 ∨ j = 1 ∨ j = 2 := by omega
        rcases this with rfl | rfl | rfl
        · exact ⟨_, by simp [World.cell?, L10]; rfl⟩
        · exact ⟨_, by simp [World.cell?, L10]; rfl⟩
        · exact ⟨_, by simp [World.cell?, L10]; rfl⟩
      have HZ : Hid (SrcB w2.heap.size w10 (w.heap.size + 1) ∧ Only (w.heap.size + 1) w3 w10) := ⟨s10, H9.out.2.trans o10⟩
      clear s10 o10 H9 L9 L10
      have D0 : Hid (But2 (w.heap.size + 1) w.heap.size w10 w10.drew) := ⟨Nat.le_refl _, fun _ _ _ _ => rfl⟩
      have SD : Hid (SrcB w2.heap.size w10.drew (w.heap.size + 1)) := ⟨HZ.out.1.1, HZ.out.1.2.1, HZ.out.1.2.2⟩
      have ND : Hid (Only (w.heap.size + 1) w3 w10.drew) := HZ.out.2.drew
      clear HZ D0
      go_wp2_with fail
      refine wp_region_held_drew (S := fun W => w2.heap.size < W.heap.size ∧ W.cell? ⟨w2.heap.size, 0, none⟩ = some (.slice sl1 n cap1) ∧ W.cell? ⟨w2.heap.size, 1, none⟩ = some (.slice sl2 m cap2)) (by kernel_rfl) ?_ (fun hHeld => ?_)
      · exact KT.out _ ND.out
      generalize w10.drew = wz at *
      refine wpAnyH_take (i := 0) (oi := _) (v := ?_) rfl (by kernel_rfl) (by kernel_rfl) (by kernel_rfl) (fun _ _ _ h => h) (Or.inl ⟨by rfl, ?_⟩) (by assumption) ?_
      rotate_left
      · first | (intro w hSw; (try dsimp only at hSw); go_simp; done) | (intro w hSw; (try dsimp only at hSw); go_simp; with_reducible rfl)
      try simp only [Act.put, List.setIfInBounds_toArray, List.set_cons_zero, List.set_cons_succ, List.getElem_toArray, List.getElem_cons_zero]
      refine wpAnyH_take (i := 1) (oi := _) (v := ?_) rfl (by kernel_rfl) (by kernel_rfl) (by kernel_rfl) (fun _ _ _ h => h) (Or.inl ⟨by rfl, ?_⟩) (by assumption) ?_
      rotate_left
      · first | (intro w hSw; (try dsimp only at hSw); go_simp; done) | (intro w hSw; (try dsimp only at hSw); go_simp; with_reducible rfl)
      try simp only [Act.put, List.setIfInBounds_toArray, List.set_cons_zero, List.set_cons_succ, List.getElem_toArray, List.getElem_cons_succ, List.getElem_cons_zero]
      refine wpAnyH_take (i := 2) (oi := _) (v := ?_) rfl (by kernel_rfl) (by kernel_rfl) (by kernel_rfl) (fun _ _ _ h => h) (Or.inl ⟨by rfl, ?_⟩) (by assumption) ?_
      rotate_left
      · first | (intro w hSw; (try dsimp only at hSw); go_simp; done) | (intro w hSw; (try dsimp only at hSw); go_simp; with_reducible rfl)
      try simp only [Act.put, List.setIfInBounds_toArray, List.set_cons_zero, List.set_cons_succ, List.getElem_toArray, List.getElem_cons_succ, List.getElem_cons_zero]
      refine wpAnyH_take (i := 3) (oi := _) (v := ?_) rfl (by kernel_rfl) (by kernel_rfl) (by kernel_rfl) (fun _ _ _ h => h) (Or.inl ⟨by rfl, ?_⟩) (by assumption) ?_
      rotate_left
      · first | (intro w hSw; (try dsimp only at hSw); go_simp; done) | (intro w hSw; (try dsimp only at hSw); go_simp; with_reducible rfl)
      try simp only [Act.put, List.setIfInBounds_toArray, List.set_cons_zero, List.set_cons_succ, List.getElem_toArray, List.getElem_cons_succ, List.getElem_cons_zero]
      refine wpAnyH_take (i := 5) (oi := _) (v := ?_) rfl (by kernel_rfl) (by kernel_rfl) (by kernel_rfl) (fun _ _ _ h => h) (Or.inl ⟨by rfl, ?_⟩) (by assumption) ?_
      rotate_left
      · first | (intro w hSw; (try dsimp only at hSw); go_simp; done) | (intro w hSw; (try dsimp only at hSw); go_simp; with_reducible rfl)
      try simp only [Act.put, List.setIfInBounds_toArray, List.set_cons_zero, List.set_cons_succ, List.getElem_toArray, List.getElem_cons_succ, List.getElem_cons_zero]
      clear hHeld
      refine wpAnyH_ready (rs := [4]) (by kernel_rfl) (by simp) ?_
      refine AllReadyH.cons rfl (fun K hK => ?_) AllReadyH.nil
      go_simp
      go_wp2_with (go_at_call 19; refine (LI.out wz ND.out SD.out).mono ?_; rintro e w6 ⟨v, zs, rfl, hzs, o6, s6, n6⟩)
      have N6 := Lib.hid (ND.out.trans n6)
      obtain ⟨vs, vk, rfl⟩ := own_v o6
      have R6 : Hid (w6.heap[w.heap.size]? = some (.cells #[.slice none 0 0, .slice none 0 0] 26)) := (N6.out.block w.heap.size (by omega) (by omega)).trans R3.out
      refine hK.out _ _ ?_ (fun hHeld => ?_)
      · exact KT.out _ N6.out
      clear hK K s6
      have FIN : Hid (∀ W, But2 (w.heap.size + 1) w.heap.size w6 W → Below w.heap.size w W → DfPost w (.returned (.tuple #[TV sl1 n cap1 sl2 m cap2, .int .i64 top, .slice vs zs.length vk, .int .i64 (bd)])) W) := fun W a bl => by
        obtain ⟨x1, x2⟩ := K3.out W ((But2.of N6.out).trans a)
        refine ⟨sl1, cap1, sl2, cap2, rs, ps, top, .slice vs zs.length vk, zs, _, by rw [HN.out, HM.out], by rw [HN.out]; exact h1, HW.out, x1, x2, hzs, ⟨wz.heap.size, by have := a.size; have := n6.size; omega, own_keep o6 (fun j hj => ?_)⟩, bl⟩
        have hj1 := own_base o6 hj
        have hj2 := (o6.lt j hj).2
        have hj3 := ND.out.size
        exact a.block j hj2 (by omega) (by omega)
      have B6 : Hid (Below w.heap.size w w6) := N6.out.below B3.out (by omega)
      generalize zs.length = zn at *
      clear o6 n6 LI SD
      refine wpAnyH_ready (rs := [6]) (by kernel_rfl) (by simp) ?_
      refine AllReadyH.cons rfl (fun K hK => ?_) AllReadyH.nil
      have R7 := heap_setCell_same _ w.heap.size 1 _ 26 (.slice sl2 m cap2) (heap_setCell_same w6 w.heap.size 0 _ 26 (.slice sl1 n cap1) R6.out)
      have c0 : w6.cell? ⟨w.heap.size, 0, none⟩ = some (.slice none 0 0) := by simp [World.cell?, R6.out]
      have c1 : w6.cell? ⟨w.heap.size, 1, none⟩ = some (.slice none 0 0) := by simp [World.cell?, R6.out]
      have f0 : w6.frozen? ⟨w.heap.size, 0, none⟩ = false := by simp [World.frozen?, R6.out]
      have f1 : w6.frozen? ⟨w.heap.size, 1, none⟩ = false := by simp [World.frozen?, R6.out]
      have lt7 : w.heap.size < w6.heap.size := (Array.getElem?_eq_some_iff.1 R6.out).1
      have hw23 : w.heap.size < w2.heap.size := by omega
      have KF : Hid ((fun W => w2.heap.size < W.heap.size ∧ W.cell? ⟨w2.heap.size, 0, none⟩ = some (.slice sl1 n cap1) ∧ W.cell? ⟨w2.heap.size, 1, none⟩ = some (.slice sl2 m cap2)) ((w6.setCell ⟨w.heap.size, 0, none⟩ (.slice sl1 n cap1)).setCell ⟨w.heap.size, 1, none⟩ (.slice sl2 m cap2))) := by
        have k := KT.out _ N6.out
        have e : ∀ i, ((w6.setCell ⟨w.heap.size, 0, none⟩ (.slice sl1 n cap1)).setCell ⟨w.heap.size, 1, none⟩ (.slice sl2 m cap2)).cell? ⟨w2.heap.size, i, none⟩ = w6.cell? ⟨w2.heap.size, i, none⟩ := fun i => World.cell?_of_block (w := w6) ((Below.heap_setCell _ _ _ _ (by show w2.heap.size ≠ w.heap.size; omega)).trans (Below.heap_setCell _ _ _ _ (by show w2.heap.size ≠ w.heap.size; omega)))
        exact ⟨by simpa [World.setCell] using k.1, (e 0).trans k.2.1, (e 1).trans k.2.2⟩
      have P := Lib.hid (FIN.out ((w6.setCell ⟨w.heap.size, 0, none⟩ (.slice sl1 n cap1)).setCell ⟨w.heap.size, 1, none⟩ (.slice sl2 m cap2)) (((But2.of (Only.refl _ _)).set 0 _).set 1 _) ((B6.out.setCell (Nat.le_refl _) _).setCell (Nat.le_refl _) _))
      have R7' := Lib.hid R7
      clear R7 hHeld
      go_simp
      refine hK.out _ _ ?_ (fun hHeld => ?_)
      · exact KF.out
      clear hK K c0 c1 f0 f1 lt7
      refine wpAnyH_take (i := 7) (oi := _) (v := ?_) rfl (by kernel_rfl) (by kernel_rfl) (by kernel_rfl) (fun _ _ _ h => h) (Or.inl ⟨by rfl, ?_⟩) (by assumption) ?_
      rotate_left
      · first | (intro w hSw; (try dsimp only at hSw); go_simp; done) | (intro w hSw; (try dsimp only at hSw); go_simp; with_reducible rfl)
      try simp only [Act.put, List.setIfInBounds_toArray, List.set_cons_zero, List.set_cons_succ, List.getElem_toArray, List.getElem_cons_succ, List.getElem_cons_zero]
      refine wpAnyH_take (i := 8) (oi := _) (v := ?_) rfl (by kernel_rfl) (by kernel_rfl) (by kernel_rfl) (fun _ _ _ h => h) (Or.inl ⟨by rfl, ?_⟩) (by assumption) ?_
      rotate_left
      · first | (intro w hSw; (try dsimp only at hSw); go_simp; done) | (intro w hSw; (try dsimp only at hSw); go_simp; with_reducible rfl)
      try simp only [Act.put, List.setIfInBounds_toArray, List.set_cons_zero, List.set_cons_succ, List.getElem_toArray, List.getElem_cons_succ, List.getElem_cons_zero]
      refine wpAnyH_take (i := 9) (oi := _) (v := ?_) rfl (by kernel_rfl) (by kernel_rfl) (by kernel_rfl) (fun _ _ _ h => h) (Or.inl ⟨by rfl, ?_⟩) (by assumption) ?_
      rotate_left
      · first | (intro w hSw; (try dsimp only at hSw); go_simp; done) | (intro w hSw; (try dsimp only at hSw); go_simp; with_reducible rfl)
      try simp only [Act.put, List.setIfInBounds_toArray, List.set_cons_zero, List.set_cons_succ, List.getElem_toArray, List.getElem_cons_succ, List.getElem_cons_zero]
      refine wpAnyH_done (by kernel_rfl) ?_ _
      have e5 : ((w6.setCell ⟨w.heap.size, 0, none⟩ (.slice sl1 n cap1)).setCell ⟨w.heap.size, 1, none⟩ (.slice sl2 m cap2)).cell? ⟨w.heap.size, 0, none⟩ = some (.slice sl1 n cap1) := by simp [World.cell?, R7'.out]
      have e6 : ((w6.setCell ⟨w.heap.size, 0, none⟩ (.slice sl1 n cap1)).setCell ⟨w.heap.size, 1, none⟩ (.slice sl2 m cap2)).cell? ⟨w.heap.size, 1, none⟩ = some (.slice sl2 m cap2) := by simp [World.cell?, R7'.out]
      clear KF FIN hHeld
      go_wp2
      exact bodyPost_ret (v := .tuple #[.agg #[.slice sl1 n cap1, .slice sl2 m cap2], .int .i64 top, .slice vs zn vk, .int .i64 (bd)]) (by simp [results, Try.results4, go_sem, e5, e6]) rfl P.out
  | true =>
    go_wp2_with fail
    refine (nB_lt w2.heap.size (w.heap.size + 1) 40 w5 (by decide) (by decide) H5.out.1).mono ?_
    rintro e w7 ⟨bb, rfl, r0, r1, s7, o7⟩
    have H : Hid (SrcB w2.heap.size w7 (w.heap.size + 1) ∧ Only (w.heap.size + 1) w3 w7) := ⟨s7, H5.out.2.trans o7⟩
    clear s7 o7 H5 r0 r1
    go_wp2_with fail
    refine (oneB_any w2.heap.size (w.heap.size + 1) 30 w7 (by decide) H.out.1).mono ?_
    rintro e w8 ⟨t, rfl, s8, o8⟩
    have H8 : Hid (SrcB w2.heap.size w8 (w.heap.size + 1) ∧ Only (w.heap.size + 1) w3 w8) := ⟨s8, H.out.2.trans o8⟩
    clear s8 o8 H
    cases t with
    | false =>
      have HZ := H8
      clear H8
      have D0 : Hid (But2 (w.heap.size + 1) w.heap.size w8 w8.drew) := ⟨Nat.le_refl _, fun _ _ _ _ => rfl⟩
      have SD : Hid (SrcB w2.heap.size w8.drew (w.heap.size + 1)) := ⟨HZ.out.1.1, HZ.out.1.2.1, HZ.out.1.2.2⟩
      have ND : Hid (Only (w.heap.size + 1) w3 w8.drew) := HZ.out.2.drew
      clear HZ D0
      go_wp2_with fail
      refine wp_region_held_drew (S := fun W => w2.heap.size < W.heap.size ∧ W.cell? ⟨w2.heap.size, 0, none⟩ = some (.slice sl1 n cap1) ∧ W.cell? ⟨w2.heap.size, 1, none⟩ = some (.slice sl2 m cap2)) (by kernel_rfl) ?_ (fun hHeld => ?_)
      · exact KT.out _ ND.out
      generalize w8.drew = wz at *
      refine wpAnyH_take (i := 0) (oi := _) (v := ?_) rfl (by kernel_rfl) (by kernel_rfl) (by kernel_rfl) (fun _ _ _ h => h) (Or.inl ⟨by rfl, ?_⟩) (by assumption) ?_
      rotate_left
      · first | (intro w hSw; (try dsimp only at hSw); go_simp; done) | (intro w hSw; (try dsimp only at hSw); go_simp; with_reducible rfl)
      try simp only [Act.put, List.setIfInBounds_toArray, List.set_cons_zero, List.set_cons_succ, List.getElem_toArray, List.getElem_cons_zero]
      refine wpAnyH_take (i := 1) (oi := _) (v := ?_) rfl (by kernel_rfl) (by kernel_rfl) (by kernel_rfl) (fun _ _ _ h => h) (Or.inl ⟨by rfl, ?_⟩) (by assumption) ?_
      rotate_left
      · first | (intro w hSw; (try dsimp only at hSw); go_simp; done) | (intro w hSw; (try dsimp only at hSw); go_simp; with_reducible rfl)
      try simp only [Act.put, List.setIfInBounds_toArray, List.set_cons_zero, List.set_cons_succ, List.getElem_toArray, List.getElem_cons_succ, List.getElem_cons_zero]
      refine wpAnyH_take (i := 2) (oi := _) (v := ?_) rfl (by kernel_rfl) (by kernel_rfl) (by kernel_rfl) (fun _ _ _ h => h) (Or.inl ⟨by rfl, ?_⟩) (by assumption) ?_
      rotate_left
      · first | (intro w hSw; (try dsimp only at hSw); go_simp; done) | (intro w hSw; (try dsimp only at hSw); go_simp; with_reducible rfl)
      try simp only [Act.put, List.setIfInBounds_toArray, List.set_cons_zero, List.set_cons_succ, List.getElem_toArray, List.getElem_cons_succ, List.getElem_cons_zero]
      refine wpAnyH_take (i := 3) (oi := _) (v := ?_) rfl (by kernel_rfl) (by kernel_rfl) (by kernel_rfl) (fun _ _ _ h => h) (Or.inl ⟨by rfl, ?_⟩) (by assumption) ?_
      rotate_left
      · first | (intro w hSw; (try dsimp only at hSw); go_simp; done) | (intro w hSw; (try dsimp only at hSw); go_simp; with_reducible rfl)
      try simp only [Act.put, List.setIfInBounds_toArray, List.set_cons_zero, List.set_cons_succ, List.getElem_toArray, List.getElem_cons_succ, List.getElem_cons_zero]
      refine wpAnyH_take (i := 5) (oi := _) (v := ?_) rfl (by kernel_rfl) (by kernel_rfl) (by kernel_rfl) (fun _ _ _ h => h) (Or.inl ⟨by rfl, ?_⟩) (by assumption) ?_
      rotate_left
      · first | (intro w hSw; (try dsimp only at hSw); go_simp; done) | (intro w hSw; (try dsimp only at hSw); go_simp; with_reducible rfl)
      try simp only [Act.put, List.setIfInBounds_toArray, List.set_cons_zero, List.set_cons_succ, List.getElem_toArray, List.getElem_cons_succ, List.getElem_cons_zero]
      clear hHeld
      refine wpAnyH_ready (rs := [4]) (by kernel_rfl) (by simp) ?_
      refine AllReadyH.cons rfl (fun K hK => ?_) AllReadyH.nil
      go_simp
      go_wp2_with (go_at_call 19; refine (LI.out wz ND.out SD.out).mono ?_; rintro e w6 ⟨v, zs, rfl, hzs, o6, s6, n6⟩)
      have N6 := Lib.hid (ND.out.trans n6)
      obtain ⟨vs, vk, rfl⟩ := own_v o6
      have R6 : Hid (w6.heap[w.heap.size]? = some (.cells #[.slice none 0 0, .slice none 0 0] 26)) := (N6.out.block w.heap.size (by omega) (by omega)).trans R3.out
      refine hK.out _ _ ?_ (fun hHeld => ?_)
      · exact KT.out _ N6.out
      clear hK K s6
      have FIN : Hid (∀ W, But2 (w.heap.size + 1) w.heap.size w6 W → Below w.heap.size w W → DfPost w (.returned (.tuple #[TV sl1 n cap1 sl2 m cap2, .int .i64 top, .slice vs zs.length vk, .int .i64 (bb)])) W) := fun W a bl => by
        obtain ⟨x1, x2⟩ := K3.out W ((But2.of N6.out).trans a)
        refine ⟨sl1, cap1, sl2, cap2, rs, ps, top, .slice vs zs.length vk, zs, _, by rw [HN.out, HM.out], by rw [HN.out]; exact h1, HW.out, x1, x2, hzs, ⟨wz.heap.size, by have := a.size; have := n6.size; omega, own_keep o6 (fun j hj => ?_)⟩, bl⟩
        have hj1 := own_base o6 hj
        have hj2 := (o6.lt j hj).2
        have hj3 := ND.out.size
        exact a.block j hj2 (by omega) (by omega)
      have B6 : Hid (Below w.heap.size w w6) := N6.out.below B3.out (by omega)
      generalize zs.length = zn at *
      clear o6 n6 LI SD
      refine wpAnyH_ready (rs := [6]) (by kernel_rfl) (by simp) ?_
      refine AllReadyH.cons rfl (fun K hK => ?_) AllReadyH.nil
      have R7 := heap_setCell_same _ w.heap.size 1 _ 26 (.slice sl2 m cap2) (heap_setCell_same w6 w.heap.size 0 _ 26 (.slice sl1 n cap1) R6.out)
      have c0 : w6.cell? ⟨w.heap.size, 0, none⟩ = some (.slice none 0 0) := by simp [World.cell?, R6.out]
      have c1 : w6.cell? ⟨w.heap.size, 1, none⟩ = some (.slice none 0 0) := by simp [World.cell?, R6.out]
      have f0 : w6.frozen? ⟨w.heap.size, 0, none⟩ = false := by simp [World.frozen?, R6.out]
      have f1 : w6.frozen? ⟨w.heap.size, 1, none⟩ = false := by simp [World.frozen?, R6.out]
      have lt7 : w.heap.size < w6.heap.size := (Array.getElem?_eq_some_iff.1 R6.out).1
      have hw23 : w.heap.size < w2.heap.size := by omega
      have KF : Hid ((fun W => w2.heap.size < W.heap.size ∧ W.cell? ⟨w2.heap.size, 0, none⟩ = some (.slice sl1 n cap1) ∧ W.cell? ⟨w2.heap.size, 1, none⟩ = some (.slice sl2 m cap2)) ((w6.setCell ⟨w.heap.size, 0, none⟩ (.slice sl1 n cap1)).setCell ⟨w.heap.size, 1, none⟩ (.slice sl2 m cap2))) := by
        have k := KT.out _ N6.out
        have e : ∀ i, ((w6.setCell ⟨w.heap.size, 0, none⟩ (.slice sl1 n cap1)).setCell ⟨w.heap.size, 1, none⟩ (.slice sl2 m cap2)).cell? ⟨w2.heap.size, i, none⟩ = w6.cell? ⟨w2.heap.size, i, none⟩ := fun i => World.cell?_of_block (w := w6) ((Below.heap_setCell _ _ _ _ (by show w2.heap.size ≠ w.heap.size; omega)).trans (Below.heap_setCell _ _ _ _ (by show w2.heap.size ≠ w.heap.size; omega)))
        exact ⟨by simpa [World.setCell] using k.1, (e 0).trans k.2.1, (e 1).trans k.2.2⟩
      have P := Lib.hid (FIN.out ((w6.setCell ⟨w.heap.size, 0, none⟩ (.slice sl1 n cap1)).setCell ⟨w.heap.size, 1, none⟩ (.slice sl2 m cap2)) (((But2.of (Only.refl _ _)).set 0 _).set 1 _) ((B6.out.setCell (Nat.le_refl _) _).setCell (Nat.le_refl _) _))
      have R7' := Lib.hid R7
      clear R7 hHeld
      go_simp
      refine hK.out _ _ ?_ (fun hHeld => ?_)
      · exact KF.out
      clear hK K c0 c1 f0 f1 lt7
      refine wpAnyH_take (i := 7) (oi := _) (v := ?_) rfl (by kernel_rfl) (by kernel_rfl) (by kernel_rfl) (fun _ _ _ h => h) (Or.inl ⟨by rfl, ?_⟩) (by assumption) ?_
      rotate_left
      · first | (intro w hSw; (try dsimp only at hSw); go_simp; done) | (intro w hSw; (try dsimp only at hSw); go_simp; with_reducible rfl)
      try simp only [Act.put, List.setIfInBounds_toArray, List.set_cons_zero, List.set_cons_succ, List.getElem_toArray, List.getElem_cons_succ, List.getElem_cons_zero]
      refine wpAnyH_take (i := 8) (oi := _) (v := ?_) rfl (by kernel_rfl) (by kernel_rfl) (by kernel_rfl) (fun _ _ _ h => h) (Or.inl ⟨by rfl, ?_⟩) (by assumption) ?_
      rotate_left
      · first | (intro w hSw; (try dsimp only at hSw); go_simp; done) | (intro w hSw; (try dsimp only at hSw); go_simp; with_reducible rfl)
      try simp only [Act.put, List.setIfInBounds_toArray, List.set_cons_zero, List.set_cons_succ, List.getElem_toArray, List.getElem_cons_succ, List.getElem_cons_zero]
      refine wpAnyH_take (i := 9) (oi := _) (v := ?_) rfl (by kernel_rfl) (by kernel_rfl) (by kernel_rfl) (fun _ _ _ h => h) (Or.inl ⟨by rfl, ?_⟩) (by assumption) ?_
      rotate_left
      · first | (intro w hSw; (try dsimp only at hSw); go_simp; done) | (intro w hSw; (try dsimp only at hSw); go_simp; with_reducible rfl)
      try simp only [Act.put, List.setIfInBounds_toArray, List.set_cons_zero, List.set_cons_succ, List.getElem_toArray, List.getElem_cons_succ, List.getElem_cons_zero]
      refine wpAnyH_done (by kernel_rfl) ?_ _
      have e5 : ((w6.setCell ⟨w.heap.size, 0, none⟩ (.slice sl1 n cap1)).setCell ⟨w.heap.size, 1, none⟩ (.slice sl2 m cap2)).cell? ⟨w.heap.size, 0, none⟩ = some (.slice sl1 n cap1) := by simp [World.cell?, R7'.out]
      have e6 : ((w6.setCell ⟨w.heap.size, 0, none⟩ (.slice sl1 n cap1)).setCell ⟨w.heap.size, 1, none⟩ (.slice sl2 m cap2)).cell? ⟨w.heap.size, 1, none⟩ = some (.slice sl2 m cap2) := by simp [World.cell?, R7'.out]
      clear KF FIN hHeld
      go_wp2
      exact bodyPost_ret (v := .tuple #[.agg #[.slice sl1 n cap1, .slice sl2 m cap2], .int .i64 top, .slice vs zn vk, .int .i64 (bb)]) (by simp [results, Try.results4, go_sem, e5, e6]) rfl P.out
    | true =>
      have H9 : Hid (SrcB w2.heap.size (w8.alloc (.cells #[.int .i64 (-1), .int .i64 2000, .int .i64 2001] 2)) (w.heap.size + 1) ∧ Only (w.heap.size + 1) w3 (w8.alloc (.cells #[.int .i64 (-1), .int .i64 2000, .int .i64 2001] 2))) := ⟨H8.out.1.below (bA0 w8 _), H8.out.2.trans (Only.of_below (bA0 w8 _))⟩
      have L9 := Lib.hid (new_at w8 (.cells #[.int .i64 (-1), .int .i64 2000, .int .i64 2001] 2))
      have hw8 : w3.heap.size ≤ w8.heap.size := H8.out.2.size
      clear H8
      go_wp2_with fail
      generalize w8.alloc (.cells #[.int .i64 (-1), .int .i64 2000, .int .i64 2001] 2) = w9 at *
      refine (nB_lt w2.heap.size (w.heap.size + 1) 3 w9 (by decide) (by decide) H9.out.1).mono ?_
      rintro e w10 ⟨r, rfl, r0, r1, s10, o10⟩
      obtain ⟨j, rfl⟩ : ∃ j : Nat, r = (j : Int) := ⟨r.toNat, by omega⟩
      have hj3 : j < 3 := by omega
      have L10 := (o10.block w8.heap.size (Array.getElem?_eq_some_iff.1 L9.out).1 (by omega)).trans L9.out
      obtain ⟨bd, hbd⟩ : ∃ bd : Int, w10.cell? ⟨w8.heap.size, j, none⟩ = some (.int .i64 bd) := by
        have : j = 0 ∨ j = 1 ∨ j = 2 := by omega
        rcases this with rfl | rfl | rfl
        · exact ⟨_, by simp [World.cell?, L10]; rfl⟩
        · exact ⟨_, by simp [World.cell?, L10]; rfl⟩
        · exact ⟨_, by simp [World.cell?, L10]; rfl⟩
      have HZ : Hid (SrcB w2.heap.size w10 (w.heap.size + 1) ∧ Only (w.heap.size + 1) w3 w10) := ⟨s10, H9.out.2.trans o10⟩
      clear s10 o10 H9 L9 L10
      have D0 : Hid (But2 (w.heap.size + 1) w.heap.size w10 w10.drew) := ⟨Nat.le_refl _, fun _ _ _ _ => rfl⟩
      have SD : Hid (SrcB w2.heap.size w10.drew (w.heap.size + 1)) := ⟨HZ.out.1.1, HZ.out.1.2.1, HZ.out.1.2.2⟩
      have ND : Hid (Only (w.heap.size + 1) w3 w10.drew) := HZ.out.2.drew
      clear HZ D0
      go_wp2_with fail
      refine wp_region_held_drew (S := fun W => w2.heap.size < W.heap.size ∧ W.cell? ⟨w2.heap.size, 0, none⟩ = some (.slice sl1 n cap1) ∧ W.cell? ⟨w2.heap.size, 1, none⟩ = some (.slice sl2 m cap2)) (by kernel_rfl) ?_ (fun hHeld => ?_)
      · exact KT.out _ ND.out
      generalize w10.drew = wz at *
      refine wpAnyH_take (i := 0) (oi := _) (v := ?_) rfl (by kernel_rfl) (by kernel_rfl) (by kernel_rfl) (fun _ _ _ h => h) (Or.inl ⟨by rfl, ?_⟩) (by assumption) ?_
      rotate_left
      · first | (intro w hSw; (try dsimp only at hSw); go_simp; done) | (intro w hSw; (try dsimp only at hSw); go_simp; with_reducible rfl)
      try simp only [Act.put, List.setIfInBounds_toArray, List.set_cons_zero, List.set_cons_succ, List.getElem_toArray, List.getElem_cons_zero]
      refine wpAnyH_take (i := 1) (oi := _) (v := ?_) rfl (by kernel_rfl) (by kernel_rfl) (by kernel_rfl) (fun _ _ _ h => h) (Or.inl ⟨by rfl, ?_⟩) (by assumption) ?_
      rotate_left
      · first | (intro w hSw; (try dsimp only at hSw); go_simp; done) | (intro w hSw; (try dsimp only at hSw); go_simp; with_reducible rfl)
      try simp only [Act.put, List.setIfInBounds_toArray, List.set_cons_zero, List.set_cons_succ, List.getElem_toArray, List.getElem_cons_succ, List.getElem_cons_zero]
      refine wpAnyH_take (i := 2) (oi := _) (v := ?_) rfl (by kernel_rfl) (by kernel_rfl) (by kernel_rfl) (fun _ _ _ h => h) (Or.inl ⟨by rfl, ?_⟩) (by assumption) ?_
      rotate_left
      · first | (intro w hSw; (try dsimp only at hSw); go_simp; done) | (intro w hSw; (try dsimp only at hSw); go_simp; with_reducible rfl)
      try simp only [Act.put, List.setIfInBounds_toArray, List.set_cons_zero, List.set_cons_succ, List.getElem_toArray, List.getElem_cons_succ, List.getElem_cons_zero]
      refine wpAnyH_take (i := 3) (oi := _) (v := ?_) rfl (by kernel_rfl) (by kernel_rfl) (by kernel_rfl) (fun _ _ _ h => h) (Or.inl ⟨by rfl, ?_⟩) (by assumption) ?_
      rotate_left
      · first | (intro w hSw; (try dsimp only at hSw); go_simp; done) | (intro w hSw; (try dsimp only at hSw); go_simp; with_reducible rfl)
      try simp only [Act.put, List.setIfInBounds_toArray, List.set_cons_zero, List.set_cons_succ, List.getElem_toArray, List.getElem_cons_succ, List.getElem_cons_zero]
      refine wpAnyH_take (i := 5) (oi := _) (v := ?_) rfl (by kernel_rfl) (by kernel_rfl) (by kernel_rfl) (fun _ _ _ h => h) (Or.inl ⟨by rfl, ?_⟩) (by assumption) ?_
      rotate_left
      · first | (intro w hSw; (try dsimp only at hSw); go_simp; done) | (intro w hSw; (try dsimp only at hSw); go_simp; with_reducible rfl)
      try simp only [Act.put, List.setIfInBounds_toArray, List.set_cons_zero, List.set_cons_succ, List.getElem_toArray, List.getElem_cons_succ, List.getElem_cons_zero]
      clear hHeld
      refine wpAnyH_ready (rs := [4]) (by kernel_rfl) (by simp) ?_
      refine AllReadyH.cons rfl (fun K hK => ?_) AllReadyH.nil
      go_simp
      go_wp2_with (go_at_call 19; refine (LI.out wz ND.out SD.out).mono ?_; rintro e w6 ⟨v, zs, rfl, hzs, o6, s6, n6⟩)
      have N6 := Lib.hid (ND.out.trans n6)
      obtain ⟨vs, vk, rfl⟩ := own_v o6
      have R6 : Hid (w6.heap[w.heap.size]? = some (.cells #[.slice none 0 0, .slice none 0 0] 26)) := (N6.out.block w.heap.size (by omega) (by omega)).trans R3.out
      refine hK.out _ _ ?_ (fun hHeld => ?_)
      · exact KT.out _ N6.out
      clear hK K s6
      have FIN : Hid (∀ W, But2 (w.heap.size + 1) w.heap.size w6 W → Below w.heap.size w W → DfPost w (.returned (.tuple #[TV sl1 n cap1 sl2 m cap2, .int .i64 top, .slice vs zs.length vk, .int .i64 (bd)])) W) := fun W a bl => by
        obtain ⟨x1, x2⟩ := K3.out W ((But2.of N6.out).trans a)
        refine ⟨sl1, cap1, sl2, cap2, rs, ps, top, .slice vs zs.length vk, zs, _, by rw [HN.out, HM.out], by rw [HN.out]; exact h1, HW.out, x1, x2, hzs, ⟨wz.heap.size, by have := a.size; have := n6.size; omega, own_keep o6 (fun j hj => ?_)⟩, bl⟩
        have hj1 := own_base o6 hj
        have hj2 := (o6.lt j hj).2
        have hj3 := ND.out.size
        exact a.block j hj2 (by omega) (by omega)
      have B6 : Hid (Below w.heap.size w w6) := N6.out.below B3.out (by omega)
      generalize zs.length = zn at *
      clear o6 n6 LI SD
      refine wpAnyH_ready (rs := [6]) (by kernel_rfl) (by simp) ?_
      refine AllReadyH.cons rfl (fun K hK => ?_) AllReadyH.nil
      have R7 := heap_setCell_same _ w.heap.size 1 _ 26 (.slice sl2 m cap2) (heap_setCell_same w6 w.heap.size 0 _ 26 (.slice sl1 n cap1) R6.out)
      have c0 : w6.cell? ⟨w.heap.size, 0, none⟩ = some (.slice none 0 0) := by simp [World.cell?, R6.out]
      have c1 : w6.cell? ⟨w.heap.size, 1, none⟩ = some (.slice none 0 0) := by simp [World.cell?, R6.out]
      have f0 : w6.frozen? ⟨w.heap.size, 0, none⟩ = false := by simp [World.frozen?, R6.out]
      have f1 : w6.frozen? ⟨w.heap.size, 1, none⟩ = false := by simp [World.frozen?, R6.out]
      have lt7 : w.heap.size < w6.heap.size := (Array.getElem?_eq_some_iff.1 R6.out).1
      have hw23 : w.heap.size < w2.heap.size := by omega
      have KF : Hid ((fun W => w2.heap.size < W.heap.size ∧ W.cell? ⟨w2.heap.size, 0, none⟩ = some (.slice sl1 n cap1) ∧ W.cell? ⟨w2.heap.size, 1, none⟩ = some (.slice sl2 m cap2)) ((w6.setCell ⟨w.heap.size, 0, none⟩ (.slice sl1 n cap1)).setCell ⟨w.heap.size, 1, none⟩ (.slice sl2 m cap2))) := by
        have k := KT.out _ N6.out
        have e : ∀ i, ((w6.setCell ⟨w.heap.size, 0, none⟩ (.slice sl1 n cap1)).setCell ⟨w.heap.size, 1, none⟩ (.slice sl2 m cap2)).cell? ⟨w2.heap.size, i, none⟩ = w6.cell? ⟨w2.heap.size, i, none⟩ := fun i => World.cell?_of_block (w := w6) ((Below.heap_setCell _ _ _ _ (by show w2.heap.size ≠ w.heap.size; omega)).trans (Below.heap_setCell _ _ _ _ (by show w2.heap.size ≠ w.heap.size; omega)))
        exact ⟨by simpa [World.setCell] using k.1, (e 0).trans k.2.1, (e 1).trans k.2.2⟩
      have P := Lib.hid (FIN.out ((w6.setCell ⟨w.heap.size, 0, none⟩ (.slice sl1 n cap1)).setCell ⟨w.heap.size, 1, none⟩ (.slice sl2 m cap2)) (((But2.of (Only.refl _ _)).set 0 _).set 1 _) ((B6.out.setCell (Nat.le_refl _) _).setCell (Nat.le_refl _) _))
      have R7' := Lib.hid R7
      clear R7 hHeld
      go_simp
      refine hK.out _ _ ?_ (fun hHeld => ?_)
      · exact KF.out
      clear hK K c0 c1 f0 f1 lt7
      refine wpAnyH_take (i := 7) (oi := _) (v := ?_) rfl (by kernel_rfl) (by kernel_rfl) (by kernel_rfl) (fun _ _ _ h => h) (Or.inl ⟨by rfl, ?_⟩) (by assumption) ?_
      rotate_left
      · first | (intro w hSw; (try dsimp only at hSw); go_simp; done) | (intro w hSw; (try dsimp only at hSw); go_simp; with_reducible rfl)
      try simp only [Act.put, List.setIfInBounds_toArray, List.set_cons_zero, List.set_cons_succ, List.getElem_toArray, List.getElem_cons_succ, List.getElem_cons_zero]
      refine wpAnyH_take (i := 8) (oi := _) (v := ?_) rfl (by kernel_rfl) (by kernel_rfl) (by kernel_rfl) (fun _ _ _ h => h) (Or.inl ⟨by rfl, ?_⟩) (by assumption) ?_
      rotate_left
      · first | (intro w hSw; (try dsimp only at hSw); go_simp; done) | (intro w hSw; (try dsimp only at hSw); go_simp; with_reducible rfl)
      try simp only [Act.put, List.setIfInBounds_toArray, List.set_cons_zero, List.set_cons_succ, List.getElem_toArray, List.getElem_cons_succ, List.getElem_cons_zero]
      refine wpAnyH_take (i := 9) (oi := _) (v := ?_) rfl (by kernel_rfl) (by kernel_rfl) (by kernel_rfl) (fun _ _ _ h => h) (Or.inl ⟨by rfl, ?_⟩) (by assumption) ?_
      rotate_left
      · first | (intro w hSw; (try dsimp only at hSw); go_simp; done) | (intro w hSw; (try dsimp only at hSw); go_simp; with_reducible rfl)
      try simp only [Act.put, List.setIfInBounds_toArray, List.set_cons_zero, List.set_cons_succ, List.getElem_toArray, List.getElem_cons_succ, List.getElem_cons_zero]
      refine wpAnyH_done (by kernel_rfl) ?_ _
      have e5 : ((w6.setCell ⟨w.heap.size, 0, none⟩ (.slice sl1 n cap1)).setCell ⟨w.heap.size, 1, none⟩ (.slice sl2 m cap2)).cell? ⟨w.heap.size, 0, none⟩ = some (.slice sl1 n cap1) := by simp [World.cell?, R7'.out]
      have e6 : ((w6.setCell ⟨w.heap.size, 0, none⟩ (.slice sl1 n cap1)).setCell ⟨w.heap.size, 1, none⟩ (.slice sl2 m cap2)).cell? ⟨w.heap.size, 1, none⟩ = some (.slice sl2 m cap2) := by simp [World.cell?, R7'.out]
      clear KF FIN hHeld
      go_wp2
      exact bodyPost_ret (v := .tuple #[.agg #[.slice sl1 n cap1, .slice sl2 m cap2], .int .i64 top, .slice vs zn vk, .int .i64 (bd)]) (by simp [results, Try.results4, go_sem, e5, e6]) rfl P.out
end Go.Proofs.Ytgfclllfkpblnaa
