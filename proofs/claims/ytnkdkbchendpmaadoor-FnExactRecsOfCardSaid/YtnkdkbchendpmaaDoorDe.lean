/-
  THE DRAWS: a record.
-/
import Derived.Test.YtnkdkbchendpmaaDoorDd
import Derived.Deep.RegionLaw
import Derived.Deep.RegionHeld3
namespace Go.Proofs.YtnkdkbchendpmaaDoor
open Go.RowKit
set_option linter.unusedVariables false

def DrPost (b : Nat) (w : World) (e : Ending) (w' : World) : Prop :=
  ∃ (k : Int) (zs : List Int) (v : Value), e = .returned (.agg #[.int .i64 k, v]) ∧ zs.length ≤ 100 ∧ w'.ownsRow w.heap.size 2 1 v zs.length (valsZ zs) ∧ Src w' b ∧ Only b w w'

theorem VAt.set0 {w : World} {b : Nat} {a : Int} {v : Value} (h : VAt w b a v) (u : Value) : (w.setCell ⟨b, 0, none⟩ u).heap[b]? = some (.cells #[u, v] 28) := heap_setCell_same w b 0 _ 28 _ h
theorem Only.setRb {b : Nat} {w w4 : World} {rb : Nat} (O : Only b w w4) (h : w.heap.size ≤ rb) (i : Nat) (u : Value) : Only b w (w4.setCell ⟨rb, i, none⟩ u) :=
  ⟨O.os, O.tape, O.output, by simpa [World.setCell] using O.size, fun k hk hb => (Below.heap_setCell _ _ _ _ (by show k ≠ rb; omega)).trans (O.block k hk hb)⟩
theorem list_any' (B b : Nat) (m : Int) (lo hi : Int) (w : World) (hm : 0 ≤ m) (hn : m ≤ 1000) (h0 : 0 ≤ lo) (h1 : lo ≤ hi) (h2 : hi ≤ 1000000) (hs : SrcB B w b) :
    Calls Tryd.prog 72 #[.pointer (some ⟨b, 0, none⟩), .int .i64 m, .int .i64 lo, .int .i64 hi] w fun e w' => ∃ (zs : List Int) (v : Value), e = .returned v ∧ (zs.length : Int) = m ∧ (∀ z ∈ zs, lo ≤ z ∧ z ≤ hi) ∧ w'.ownsRow w.heap.size 2 1 v zs.length (valsZ zs) ∧ SrcB B w' b ∧ Only b w w' := by
  obtain ⟨n, rfl⟩ := Int.eq_ofNat_of_zero_le hm
  refine (list_any B b n lo hi w (by omega) h0 h1 h2 hs).mono ?_
  rintro e w' ⟨zs, v, h, h', r⟩
  exact ⟨zs, v, h, by omega, r⟩
/-- What stands around the list that grows. -/
structure Rst (b : Nat) (w : World) (rb : Nat) (kk : Int) (v : Value) (q : Nat) (xs : List Value) (W : World) : Prop where
  s : SrcB w.heap.size W b
  o : Only b w W
  vv : VAt W rb kk v
  u : VAt W w.heap.size 0 (.slice none 0 0)
  n : W.ownsRow (rb + 1) 2 1 v q xs
theorem Rst.drew {b : Nat} {w : World} {rb : Nat} {kk : Int} {v : Value} {q : Nat} {xs : List Value} {W : World} (h : Rst b w rb kk v q xs W) : Rst b w rb kk v q xs W.drew :=
  ⟨h.s.kept (Nat.le_refl _) (fun _ _ => rfl), h.o.drew, h.vv, h.u, own_below h.n (Below.refl _ _).drew⟩
theorem Rst.alloc {b : Nat} {w : World} {rb : Nat} {kk : Int} {v : Value} {q : Nat} {xs : List Value} {W : World} (h : Rst b w rb kk v q xs W) (x : Obj) : Rst b w rb kk v q xs (W.alloc x) :=
  ⟨h.s.below (bA0 _ _), h.o.alloc _, h.vv.of (Below.heap_alloc _ _ _ h.vv.cells.2.2.2), h.u.of (Below.heap_alloc _ _ _ h.u.cells.2.2.2), h.n.alloc _⟩
theorem Rst.app {b : Nat} {w : World} {rb : Nat} {kk : Int} {v : Value} {q : Nat} {xs : List Value} {W W' : World} (h : Rst b w rb kk v q xs W) (hrb : w.heap.size < rb) {v' : Value} {q' : Nat} {xs' : List Value}
    (hn : W'.ownsRow (rb + 1) 2 1 v' q' xs') (hg : W.grownBy W' v.ownBlock) : SrcB w.heap.size W' b ∧ Only b w W' ∧ VAt W' rb kk v ∧ VAt W' w.heap.size 0 (.slice none 0 0) := by
  have hl : ∀ j, v.ownBlock = some j → rb + 1 ≤ j := fun j hj => (h.n.lt j hj).1
  refine ⟨h.s.grown hg (fun j hj => by have := hl j hj; omega), h.o.grown hg (fun j hj => by have := hl j hj; omega), h.vv.of (hg.block rb h.vv.cells.2.2.2 (fun e => ?_)), h.u.of (hg.block _ h.u.cells.2.2.2 (fun e => ?_))⟩
  · have := hl _ e.symm; omega
  · have := hl _ e.symm; omega
theorem nR (b : Nat) (w : World) (rb : Nat) (kk : Int) (v : Value) (q : Nat) (xs : List Value) (W : World) (m : Int) (h1 : 1 ≤ m) (hM : m ≤ 9223372036854775807) (h : Rst b w rb kk v q xs W) (hb : b < w.heap.size) (hrb : w.heap.size < rb) :
    Calls Tryd.prog 70 #[.pointer (some ⟨b, 0, none⟩), .int .i64 m] W fun e W' => ∃ r : Int, e = .returned (.int .i64 r) ∧ 0 ≤ r ∧ r < m ∧ Rst b w rb kk v q xs W' ∧ Only b W W' := by
  refine (nB_lt _ b m W h1 hM h.s).mono ?_
  rintro e W' ⟨r, rfl, r1, r2, s, o⟩
  exact ⟨r, rfl, r1, r2, ⟨s, h.o.trans o, h.vv.of (o.block _ h.vv.cells.2.2.2 (by omega)), h.u.of (o.block _ h.u.cells.2.2.2 (by omega)), own_only h.n o (by omega)⟩, o⟩
theorem lit_own {w : World} (zs : List Int) (r : Int) (r1 : 0 ≤ r) (r2 : r < zs.length) :
    (w.alloc (.cells (zs.map (Value.int .i64)).toArray 2)).cell? ⟨w.heap.size, r.toNat, none⟩ = some (.int .i64 (zs.getD r.toNat 0)) := by
  have h : r.toNat < zs.length := by omega
  have e : (w.alloc (.cells (zs.map (Value.int .i64)).toArray 2)).heap[w.heap.size]? = some (.cells (zs.map (Value.int .i64)).toArray 2) := by
    show (w.heap.push _)[w.heap.size]? = _
    simp
  unfold World.cell?
  simp only [e]
  simp [h]
theorem lit_val (zs : List Int) (i : Nat) (h : i < (zs.map (Value.int .i64)).length) : (zs.map (Value.int .i64))[i]'h = .int .i64 (zs.getD i 0) := by
  have h' : i < zs.length := by simpa using h
  simp [h']
theorem fin_post {b : Nat} {w w4 : World} {rb : Nat} {kk : Int} {v : Value} {zs : List Int} (x y : Value) (hz : zs.length ≤ 100) (hw : w.heap.size < rb) (hb : b < w.heap.size)
    (N : w4.ownsRow (rb + 1) 2 1 v zs.length (valsZ zs)) (S : SrcB w.heap.size w4 b) (O : Only b w w4) :
    DrPost b w (.returned (.agg #[.int .i64 kk, v])) ((w4.setCell ⟨w.heap.size, 0, none⟩ x).setCell ⟨w.heap.size, 1, none⟩ y) := by
  refine ⟨kk, zs, v, rfl, hz, own_mono (own_set (own_set N (by omega) _ _) (by omega) _ _) (by omega), ?_, ?_⟩
  · have h : SrcB w.heap.size ((w4.setCell ⟨w.heap.size, 0, none⟩ x).setCell ⟨w.heap.size, 1, none⟩ y) b := S.kept (by simp [World.setCell]) (fun k hk => (Below.heap_setCell _ _ _ _ (by show k ≠ w.heap.size; omega)).trans (Below.heap_setCell _ _ _ _ (by show k ≠ w.heap.size; omega)))
    exact h.src
  · exact ⟨O.os, O.tape, O.output, by simpa [World.setCell] using O.size, fun k hk hb => ((Below.heap_setCell _ _ _ _ (by show k ≠ w.heap.size; omega)).trans (Below.heap_setCell _ _ _ _ (by show k ≠ w.heap.size; omega))).trans (O.block k hk hb)⟩

theorem app_post {b : Nat} {w w9 : World} {rb : Nat} {kk : Int} {v0 V : Value} {zs : List Int} {q : Nat} (xx : Int) (hq : zs.length = q) (hq6 : q ≤ 6) (hw : w.heap.size < rb) (hb : b < w.heap.size)
    (h : SrcB w.heap.size w9 b ∧ Only b w w9 ∧ VAt w9 rb kk v0 ∧ VAt w9 w.heap.size 0 (.slice none 0 0)) (hn : w9.ownsRow (rb + 1) 2 1 V (q + 1) (valsZ zs ++ [.int .i64 xx])) :
    VAt (w9.setCell ⟨rb, 1, none⟩ V) rb kk V ∧ VAt (w9.setCell ⟨rb, 1, none⟩ V) w.heap.size 0 (.slice none 0 0) ∧
    Hid (DrPost b w (.returned (.agg #[.int .i64 kk, V])) (((w9.setCell ⟨rb, 1, none⟩ V).setCell ⟨w.heap.size, 0, none⟩ (.int .i64 kk)).setCell ⟨w.heap.size, 1, none⟩ V)) := by
  have hn' : w9.ownsRow (rb + 1) 2 1 V (zs ++ [xx]).length (valsZ (zs ++ [xx])) := by
    have e1 : valsZ (zs ++ [xx]) = valsZ zs ++ [.int .i64 xx] := by simp [valsZ]
    have e2 : (zs ++ [xx]).length = q + 1 := by simp [hq]
    rw [e1, e2]; exact hn
  have S9 := h.1.kept (w' := w9.setCell ⟨rb, 1, none⟩ V) (by simp [World.setCell]) (fun k hk => Below.heap_setCell _ _ _ _ (by show k ≠ rb; omega))
  exact ⟨h.2.2.1.set V, h.2.2.2.of (Below.heap_setCell _ _ _ _ (by show w.heap.size ≠ rb; omega)), fin_post (zs := zs ++ [xx]) (kk := kk) (.int .i64 kk) V (by simp; omega) hw hb (own_set hn' (by omega) _ _) S9 (h.2.1.setRb (by omega) 1 V)⟩

set_option maxRecDepth 100000 in
set_option maxHeartbeats 1000000 in
theorem rec_any (b : Nat) (w : World) (hs : Src w b) :
    Calls Tryd.prog 58 #[.pointer (some ⟨b, 0, none⟩)] w fun e w' => DrPost b w e w' := by
  obtain ⟨i0, hi0, hz0, hz1, hz2⟩ := info_parts info2'
  have HS := Lib.hid (SrcB.of hs)
  have hb := hs.lt
  clear hs
  go_enter Tryd.func58, Tryd.ntmps58
  go_wp2_with fail
  refine (nB_lt _ b 12 _ (by decide) (by decide) (HS.out.below (bA0 _ _))).mono ?_
  rintro e w1 ⟨r0, rfl, p1, p2, s1, o1⟩
  have S1 := Lib.hid s1
  have O1 := Lib.hid ((Only.of_below (b := b) (bA0 w (.cells #[.int .i64 0, .slice none 0 0] 28))).trans o1)
  clear s1 HS
  go_wp2_with fail
  have Q1 := Lib.hid (VAt.of (w' := w1) (VAt.new w 0 (.slice none 0 0)) (o1.block _ (by simp) (by omega)))
  have z1 : w.heap.size < w1.heap.size := by have := o1.size; simp at this; omega
  have V1 := Lib.hid (VAt.new w1 (1 + r0) (.slice none 0 0))
  have Q2 := Lib.hid (Q1.out.of (Below.heap_alloc w1 (.cells #[.int .i64 (1 + r0), .slice none 0 0] 28) _ z1))
  have S2 := Lib.hid (S1.out.below (bA0 _ (.cells #[.int .i64 (1 + r0), .slice none 0 0] 28)))
  have O2 := Lib.hid (O1.out.alloc (.cells #[.int .i64 (1 + r0), .slice none 0 0] 28))
  clear o1 S1 O1 Q1
  refine (nB_lt _ b 6 _ (by decide) (by decide) S2.out).mono ?_
  rintro e w3 ⟨k0, rfl, q1, q2, s3, o3⟩
  obtain ⟨k0, rfl⟩ := Int.eq_ofNat_of_zero_le q1
  have S3 := Lib.hid s3
  have O3 := Lib.hid (O2.out.trans o3)
  have V3 := Lib.hid (V1.out.of (o3.block _ (by simp) (by omega)))
  have Q3 := Lib.hid (Q2.out.of (o3.block _ (by simp; omega) (by omega)))
  have z3 : w1.heap.size < w3.heap.size := by have := o3.size; simp at this; omega
  clear s3 o3 S2 O2 V1 Q2
  generalize w1.heap.size = rb at *
  generalize 1 + r0 = kk at *
  go_wp2
  go_loopw [4] (fun i wr => ∃ (k : Nat) (zs : List Int) (v' : Value), i = .int .i64 k ∧ zs.length + k ≤ 6 ∧ Hid (VAt wr rb kk v') ∧ Hid (wr.ownsRow (rb + 1) 2 1 v' zs.length (valsZ zs)) ∧ Hid (SrcB w.heap.size wr b) ∧ Hid (Only b w wr) ∧ Hid (VAt wr w.heap.size 0 (.slice none 0 0)) ∧ rb < wr.heap.size) (fun i _ => (intOf i).toNat)
  case atStart => exact ⟨k0, [], .slice none 0 0, rfl, by simp; omega, V3, World.ownsRow_nil _ _ _ _, S3, O3, Q3, z3⟩
  case round =>
    obtain ⟨k, zs, v', rfl, hk, H1, H2, H3, H4, H5, hsz⟩ := hrel
    by_cases hk0 : 0 < k
    · have hk0' : (0 : Int) < (k : Int) := by omega
      go_wp2_with fail
      refine (nB_lt _ b 300 _ (by decide) (by decide) H3.out).mono ?_
      rintro e w4 ⟨r4, rfl, a1, a2, s4, o4⟩
      have S4 := Lib.hid s4
      have O4 := Lib.hid (H4.out.trans o4)
      have V4 := Lib.hid (H1.out.of (o4.block _ hsz (by omega)))
      have Q4 := Lib.hid (H5.out.of (o4.block _ H5.out.cells.2.2.2 (by omega)))
      have N4 := Lib.hid (own_only H2.out o4 (by omega))
      have y4 := Nat.lt_of_lt_of_le hsz o4.size
      clear s4 o4 H1 H2 H3 H4 H5
      go_wp2_with fail
      refine (oneB_any _ b 8 _ (by decide) S4.out).mono ?_
      rintro e w5 ⟨tt, rfl, s5, o5⟩
      have S5 := Lib.hid s5
      have O5 := Lib.hid (O4.out.trans o5)
      have V5 := Lib.hid (V4.out.of (o5.block _ y4 (by omega)))
      have Q5 := Lib.hid (Q4.out.of (o5.block _ Q4.out.cells.2.2.2 (by omega)))
      have N5 := Lib.hid (own_only N4.out o5 (by omega))
      have y5 := Nat.lt_of_lt_of_le y4 o5.size
      clear s5 o5 S4 O4 V4 Q4 N4
      cases tt
      · skip
        have EV : Hid (valsZ zs ++ [.int .i64 (r4 - 100)] = valsZ (zs ++ [r4 - 100])) := by show _ = _; simp [valsZ]
        have EL : Hid ((zs ++ [r4 - 100]).length = zs.length + 1) := by show _ = _; simp
        obtain ⟨d0, d1, df, dl⟩ := V5.out.cells
        have hown := N5.out
        have hO : some rb ≠ v'.ownBlock := fun e => by have := (hown.lt _ e.symm).1; omega
        have VA := Lib.hid (V5.out.of (Below.heap_alloc w5 (.cells #[.int .i64 (r4 - 100)] 2) _ dl))
        have hkz : zs.length ≤ 50 := by omega
        generalize hq : zs.length = q at *
        have HQ := Lib.hid hq
        clear hq
        go_wp2_with (first | (at_builtin; refine wpList_append_lies _ rfl (.tmp 29) (.tmp 31) 26 rfl (rb + 1) 2 i0 (.int .i64 0) 1 8 Tryd.underlying26 hi0 hz0 hz1 hz2 rfl (by decide) _ _ _ rfl (hown.alloc _) ⟨w5.heap.size, 0, none⟩ 1 1 [.int .i64 (r4 - 100)] rfl rfl (cell_one_new _ _ _) (by intro u hu; simp at hu; subst hu; rfl) (by decide) (by unfold maxLen; omega) (by omega) (by simp; omega) (w5.heap.size + 1) (by simp) ?_))
        intro g cap w9 hown9 hgrow hg9 hlt9
        have V9 := VA.out.of (hgrow.block rb (by simp; omega) hO)
        obtain ⟨e0, e1, ef, el⟩ := V9.cells
        have O9 := Lib.hid ((O5.out.alloc (.cells #[.int .i64 (r4 - 100)] 2)).grown hgrow (fun j hj => by have := (hown.lt j hj).1; omega))
        have S9 := Lib.hid ((S5.out.below (bA0 _ (.cells #[.int .i64 (r4 - 100)] 2))).grown hgrow (fun j hj => by have := (hown.lt j hj).1; omega))
        have Q9 := Lib.hid ((Q5.out.of (Below.heap_alloc w5 (.cells #[.int .i64 (r4 - 100)] 2) _ (Q5.out.cells.2.2.2))).of (hgrow.block w.heap.size (by have := Q5.out.cells.2.2.2; simp; omega) (fun e => by have := (hown.lt _ e.symm).1; omega)))
        rw [EV.out] at hown9
        have N9 : Hid ((w9.setCell ⟨rb, 1, none⟩ (.slice (some ⟨g, 0, none⟩) (q + 1) cap)).ownsRow (rb + 1) 2 1 (.slice (some ⟨g, 0, none⟩) (q + 1) cap) (zs ++ [r4 - 100]).length (valsZ (zs ++ [r4 - 100]))) := by
          have e := EL.out; show World.ownsRow _ _ _ _ _ _ _; rw [e]; exact own_set hown9 (by omega) _ _
        have X9 := Lib.hid (V9.set (.slice (some ⟨g, 0, none⟩) (q + 1) cap))
        have S10 := Lib.hid (S9.out.kept (w' := w9.setCell ⟨rb, 1, none⟩ (.slice (some ⟨g, 0, none⟩) (q + 1) cap)) (by simp [World.setCell]) (fun k hk => Below.heap_setCell _ _ _ _ (by show k ≠ rb; omega)))
        have Q10 := Lib.hid (Q9.out.of (w' := w9.setCell ⟨rb, 1, none⟩ (.slice (some ⟨g, 0, none⟩) (q + 1) cap)) (Below.heap_setCell _ _ _ _ (by show w.heap.size ≠ rb; omega)))
        have O10 : Hid (Only b w (w9.setCell ⟨rb, 1, none⟩ (.slice (some ⟨g, 0, none⟩) (q + 1) cap))) := ⟨O9.out.os, O9.out.tape, O9.out.output, by simpa [World.setCell] using O9.out.size, fun k hk hb => (Below.heap_setCell _ _ _ _ (by show k ≠ rb; omega)).trans (O9.out.block k hk hb)⟩
        have el9 : rb < (w9.setCell ⟨rb, 1, none⟩ (.slice (some ⟨g, 0, none⟩) (q + 1) cap)).heap.size := by simpa [World.setCell] using el
        clear hown9 hgrow hg9 hlt9 hown V9 d0 d1 df
        go_wp2
        go_roundw
        case rel => exact ⟨k - 1, zs ++ [r4 - 100], _, by go_num, by have e := EL.out; omega, X9, N9, S10, O10, Q10, el9⟩
        case measure => simp [intOf]; omega
      · have kz0 : zs.length ≤ 5 := by omega
        go_wp2_with fail
        refine (nB_lt _ b 9007199254740992 _ (by decide) (by decide) S5.out).mono ?_
        rintro e w6 ⟨y, rfl, c1, c2, s6, o6⟩
        have S6 := Lib.hid s6
        have O6 := Lib.hid (O5.out.trans o6)
        have V6 := Lib.hid (V5.out.of (o6.block _ y5 (by omega)))
        have Q6 := Lib.hid (Q5.out.of (o6.block _ Q5.out.cells.2.2.2 (by omega)))
        have N6 := Lib.hid (own_only N5.out o6 (by omega))
        have y6 := Nat.lt_of_lt_of_le y5 o6.size
        clear s6 o6 S5 O5 V5 Q5 N5
        go_wp2_with fail
        have S7 := Lib.hid (S6.out.below (bA0 _ (.cells #[.int .i64 9007199254740992, .int .i64 (-9007199254740992), .int .i64 y] 2)))
        refine (nB_lt _ b 3 _ (by decide) (by decide) S7.out).mono ?_
        rintro e w7 ⟨r7, rfl, f1, f2, s7, o7⟩
        have L7 := Lib.hid (lit_cell (w := w6) [9007199254740992, -9007199254740992, y] o7 (by omega) r7 f1 (by simpa using f2))
        have S7 := Lib.hid s7
        have O7 := Lib.hid ((O6.out.alloc (.cells #[.int .i64 9007199254740992, .int .i64 (-9007199254740992), .int .i64 y] 2)).trans o7)
        have V7 := Lib.hid ((V6.out.of (Below.heap_alloc w6 (.cells #[.int .i64 9007199254740992, .int .i64 (-9007199254740992), .int .i64 y] 2) _ y6)).of (o7.block _ (by simp; omega) (by omega)))
        have Q7 := Lib.hid ((Q6.out.of (Below.heap_alloc w6 (.cells #[.int .i64 9007199254740992, .int .i64 (-9007199254740992), .int .i64 y] 2) _ Q6.out.cells.2.2.2)).of (o7.block _ (by have := Q6.out.cells.2.2.2; simp; omega) (by omega)))
        have N7 := Lib.hid (own_only (N6.out.alloc (.cells #[.int .i64 9007199254740992, .int .i64 (-9007199254740992), .int .i64 y] 2)) o7 (by omega))
        have y7 : rb < w7.heap.size := by have := o7.size; simp at this; omega
        clear s7 o7 S6 O6 V6 Q6 N6
        generalize [9007199254740992, -9007199254740992, y].getD r7.toNat 0 = xx at *
        have L7' := L7.out
        have EV : Hid (valsZ zs ++ [.int .i64 (xx)] = valsZ (zs ++ [xx])) := by show _ = _; simp [valsZ]
        have EL : Hid ((zs ++ [xx]).length = zs.length + 1) := by show _ = _; simp
        obtain ⟨d0, d1, df, dl⟩ := V7.out.cells
        have hown := N7.out
        have hO : some rb ≠ v'.ownBlock := fun e => by have := (hown.lt _ e.symm).1; omega
        have VA := Lib.hid (V7.out.of (Below.heap_alloc w7 (.cells #[.int .i64 (xx)] 2) _ dl))
        have hkz : zs.length ≤ 50 := by omega
        generalize hq : zs.length = q at *
        have HQ := Lib.hid hq
        clear hq
        go_wp2_with (first | (at_builtin; refine wpList_append_lies _ rfl (.tmp 29) (.tmp 31) 26 rfl (rb + 1) 2 i0 (.int .i64 0) 1 8 Tryd.underlying26 hi0 hz0 hz1 hz2 rfl (by decide) _ _ _ rfl (hown.alloc _) ⟨w7.heap.size, 0, none⟩ 1 1 [.int .i64 (xx)] rfl rfl (cell_one_new _ _ _) (by intro u hu; simp at hu; subst hu; rfl) (by decide) (by unfold maxLen; omega) (by omega) (by simp; omega) (w7.heap.size + 1) (by simp) ?_))
        intro g cap w9 hown9 hgrow hg9 hlt9
        have V9 := VA.out.of (hgrow.block rb (by simp; omega) hO)
        obtain ⟨e0, e1, ef, el⟩ := V9.cells
        have O9 := Lib.hid ((O7.out.alloc (.cells #[.int .i64 (xx)] 2)).grown hgrow (fun j hj => by have := (hown.lt j hj).1; omega))
        have S9 := Lib.hid ((S7.out.below (bA0 _ (.cells #[.int .i64 (xx)] 2))).grown hgrow (fun j hj => by have := (hown.lt j hj).1; omega))
        have Q9 := Lib.hid ((Q7.out.of (Below.heap_alloc w7 (.cells #[.int .i64 (xx)] 2) _ (Q7.out.cells.2.2.2))).of (hgrow.block w.heap.size (by have := Q7.out.cells.2.2.2; simp; omega) (fun e => by have := (hown.lt _ e.symm).1; omega)))
        rw [EV.out] at hown9
        have N9 : Hid ((w9.setCell ⟨rb, 1, none⟩ (.slice (some ⟨g, 0, none⟩) (q + 1) cap)).ownsRow (rb + 1) 2 1 (.slice (some ⟨g, 0, none⟩) (q + 1) cap) (zs ++ [xx]).length (valsZ (zs ++ [xx]))) := by
          have e := EL.out; show World.ownsRow _ _ _ _ _ _ _; rw [e]; exact own_set hown9 (by omega) _ _
        have X9 := Lib.hid (V9.set (.slice (some ⟨g, 0, none⟩) (q + 1) cap))
        have S10 := Lib.hid (S9.out.kept (w' := w9.setCell ⟨rb, 1, none⟩ (.slice (some ⟨g, 0, none⟩) (q + 1) cap)) (by simp [World.setCell]) (fun k hk => Below.heap_setCell _ _ _ _ (by show k ≠ rb; omega)))
        have Q10 := Lib.hid (Q9.out.of (w' := w9.setCell ⟨rb, 1, none⟩ (.slice (some ⟨g, 0, none⟩) (q + 1) cap)) (Below.heap_setCell _ _ _ _ (by show w.heap.size ≠ rb; omega)))
        have O10 : Hid (Only b w (w9.setCell ⟨rb, 1, none⟩ (.slice (some ⟨g, 0, none⟩) (q + 1) cap))) := ⟨O9.out.os, O9.out.tape, O9.out.output, by simpa [World.setCell] using O9.out.size, fun k hk hb => (Below.heap_setCell _ _ _ _ (by show k ≠ rb; omega)).trans (O9.out.block k hk hb)⟩
        have el9 : rb < (w9.setCell ⟨rb, 1, none⟩ (.slice (some ⟨g, 0, none⟩) (q + 1) cap)).heap.size := by simpa [World.setCell] using el
        clear hown9 hgrow hg9 hlt9 hown V9 d0 d1 df
        go_wp2
        go_roundw
        case rel => exact ⟨k - 1, zs ++ [xx], _, by go_num, by have e := EL.out; omega, X9, N9, S10, O10, Q10, el9⟩
        case measure => simp [intOf]; omega
    · have hk0' : ¬ (0 : Int) < (k : Int) := by omega
      have hz6 : zs.length ≤ 6 := by omega
      go_wp2_with fail
      refine (oneB_any _ b 20 _ (by decide) H3.out).mono ?_
      rintro e w4 ⟨tt, rfl, s4, o4⟩
      have S4 := Lib.hid s4
      have O4 := Lib.hid (H4.out.trans o4)
      have V4 := Lib.hid (H1.out.of (o4.block _ hsz (by omega)))
      have Q4 := Lib.hid (H5.out.of (o4.block _ H5.out.cells.2.2.2 (by omega)))
      have N4 := Lib.hid (own_only H2.out o4 (by omega))
      have y4 := Nat.lt_of_lt_of_le hsz o4.size
      clear s4 o4 H1 H2 H3 H4 H5
      cases tt
      · obtain ⟨d0, d1, df, dl⟩ := V4.out.cells
        obtain ⟨g0, g1, gf, gl⟩ := Q4.out.cells
        obtain ⟨sl, cap, rfl, _⟩ := own_ints N4.out
        have FP := Lib.hid (fin_post (kk := kk) (.int .i64 kk) (.slice sl zs.length cap) (by omega) (by omega) hb N4.out S4.out O4.out)
        generalize zs.length = q at *
        go_wp2
        exact bodyPost_ret (v := .agg #[.int .i64 kk, .slice sl q cap]) (by simp [results, Tryd.results58, go_sem, g0, g1]) rfl FP.out
      · go_wp2_with fail
        refine (nB_lt _ b 3 _ (by decide) (by decide) S4.out).mono ?_
        rintro e w5 ⟨r5, rfl, c1, c2, s5, o5⟩
        have S5 := Lib.hid s5
        have O5 := Lib.hid (O4.out.trans o5)
        have V5 := Lib.hid (V4.out.of (o5.block _ y4 (by omega)))
        have Q5 := Lib.hid (Q4.out.of (o5.block _ Q4.out.cells.2.2.2 (by omega)))
        have N5 := Lib.hid (own_only N4.out o5 (by omega))
        have y5 := Nat.lt_of_lt_of_le y4 o5.size
        clear s5 o5 S4 O4 V4 Q4 N4
        obtain rfl | rfl | rfl : r5 = 0 ∨ r5 = 1 ∨ r5 = 2 := by omega
        · go_wp2_with fail
          have T6 := Lib.hid (S5.out.below (bA0 _ (.cells #[.int .i64 0, .int .i64 100, .int .i64 101, .int .i64 (-1)] 2)))
          refine (nB_lt _ b 4 _ (by decide) (by decide) T6.out).mono ?_
          rintro e w6 ⟨rr, rfl, f1, f2, s6, o6⟩
          have S6 := Lib.hid s6
          have M6 := Lib.hid (lit_cell (w := w5) [0, 100, 101, -1] o6 (by omega) rr f1 (by simpa using f2))
          have O6 := Lib.hid ((O5.out.alloc (.cells #[.int .i64 0, .int .i64 100, .int .i64 101, .int .i64 (-1)] 2)).trans o6)
          have V6 := Lib.hid ((V5.out.of (Below.heap_alloc w5 (.cells #[.int .i64 0, .int .i64 100, .int .i64 101, .int .i64 (-1)] 2) _ y5)).of (o6.block _ (by simp; omega) (by omega)))
          have Q6 := Lib.hid ((Q5.out.of (Below.heap_alloc w5 (.cells #[.int .i64 0, .int .i64 100, .int .i64 101, .int .i64 (-1)] 2) _ Q5.out.cells.2.2.2)).of (o6.block _ (by have := Q5.out.cells.2.2.2; simp; omega) (by omega)))
          have N6 := Lib.hid (own_only (N5.out.alloc (.cells #[.int .i64 0, .int .i64 100, .int .i64 101, .int .i64 (-1)] 2)) o6 (by omega))
          have y6 : rb < w6.heap.size := by have := o6.size; simp at this; omega
          clear s6 o6 T6 S5 O5 V5 Q5 N5
          generalize [0, 100, 101, -1].getD rr.toNat 0 = xx at *
          have M6' := M6.out
          obtain ⟨d0, d1, df, dl⟩ := V6.out.cells
          obtain ⟨sl, cap, rfl, _⟩ := own_ints N6.out
          have X6 := V6.out.set0 (.int .i64 xx)
          have Q7 := Q6.out.of (w' := w6.setCell ⟨rb, 0, none⟩ (.int .i64 xx)) (Below.heap_setCell _ _ _ _ (by show w.heap.size ≠ rb; omega))
          obtain ⟨e0, e1, ef, el⟩ := VAt.cells X6
          obtain ⟨g0, g1, gf, gl⟩ := Q7.cells
          have S7 := S6.out.kept (w' := w6.setCell ⟨rb, 0, none⟩ (.int .i64 xx)) (by simp [World.setCell]) (fun k hk => Below.heap_setCell _ _ _ _ (by show k ≠ rb; omega))
          have O7 := O6.out.setRb (by omega : w.heap.size ≤ rb) 0 (.int .i64 xx)
          have FP := Lib.hid (fin_post (kk := xx) (.int .i64 xx) (.slice sl zs.length cap) (by omega) (by omega) hb (own_set N6.out (by omega) _ _) S7 O7)
          clear X6 Q7 S7 O7
          generalize zs.length = q at *
          go_wp2
          exact bodyPost_ret (v := .agg #[.int .i64 xx, .slice sl q cap]) (by simp [results, Tryd.results58, go_sem, g0, g1]) rfl FP.out
        · go_wp2_with fail
          refine (nB_lt _ b 3 _ (by decide) (by decide) S5.out).mono ?_
          rintro e w6 ⟨r6, rfl, f1, f2, s6, o6⟩
          have S6 := Lib.hid s6
          have O6 := Lib.hid (O5.out.trans o6)
          have V6 := Lib.hid (V5.out.of (o6.block _ y5 (by omega)))
          have Q6 := Lib.hid (Q5.out.of (o6.block _ Q5.out.cells.2.2.2 (by omega)))
          have N6 := Lib.hid (own_only N5.out o6 (by omega))
          have y6 := Nat.lt_of_lt_of_le y5 o6.size
          clear s6 o6 S5 O5 V5 Q5 N5
          go_wp2_with fail
          refine (list_any' _ b (59 + r6) 0 9 _ (by omega) (by omega) (by decide) (by decide) (by decide) S6.out).mono ?_
          rintro e w7 ⟨ys, v7, rfl, hys, g7, n7, s7, o7⟩
          have S7 := Lib.hid s7
          have O7 := Lib.hid (O6.out.trans o7)
          have V7 := Lib.hid (V6.out.of (o7.block _ y6 (by omega)))
          have Q7 := Lib.hid (Q6.out.of (o7.block _ Q6.out.cells.2.2.2 (by omega)))
          have N7 := Lib.hid (own_mono (B' := rb + 1) n7 (by omega))
          clear n7 s7 o7 g7 S6 O6 V6 Q6 N6
          obtain ⟨d0, d1, df, dl⟩ := V7.out.cells
          obtain ⟨sl, cap, rfl, _⟩ := own_ints N7.out
          have X6 := V7.out.set (.slice sl ys.length cap)
          have Q8 := Q7.out.of (w' := w7.setCell ⟨rb, 1, none⟩ (.slice sl ys.length cap)) (Below.heap_setCell _ _ _ _ (by show w.heap.size ≠ rb; omega))
          obtain ⟨e0, e1, ef, el⟩ := VAt.cells X6
          obtain ⟨g0, g1, gf, gl⟩ := Q8.cells
          have S8 := S7.out.kept (w' := w7.setCell ⟨rb, 1, none⟩ (.slice sl ys.length cap)) (by simp [World.setCell]) (fun k hk => Below.heap_setCell _ _ _ _ (by show k ≠ rb; omega))
          have O8 := O7.out.setRb (by omega : w.heap.size ≤ rb) 1 (.slice sl ys.length cap)
          have FP := Lib.hid (fin_post (kk := kk) (.int .i64 kk) (.slice sl ys.length cap) (by omega) (by omega) hb (own_set N7.out (by omega) _ _) S8 O8)
          clear X6 Q8 S8 O8
          generalize ys.length = q at *
          go_wp2
          exact bodyPost_ret (v := .agg #[.int .i64 kk, .slice sl q cap]) (by simp [results, Tryd.results58, go_sem, g0, g1]) rfl FP.out
        · have R5 : Hid (Rst b w rb kk v' zs.length (valsZ zs) w5) := ⟨S5.out, O5.out, V5.out, Q5.out, N5.out⟩
          clear S5 O5 V5 Q5 N5
          obtain ⟨sl, cap, rfl, _⟩ := own_ints R5.out.n
          generalize hq : zs.length = q at *
          have HQ := Lib.hid hq
          clear hq
          obtain ⟨d0, d1, df, dl⟩ := R5.out.vv.cells
          have hw : w.heap.size < rb := by omega
          go_wp2_with fail
          have hq6 : q ≤ 6 := by omega
          go_region_law (first | (go_simp; go_at_call 70; first | (refine (nR b w rb kk _ q (valsZ zs) (World.drew w5) 2 (by decide) (by decide) R5.out.drew hb hw).mono ?_; rintro e w6 ⟨rr, rfl, f1, f2, r6, o6⟩; obtain ⟨xx, EX⟩ : ∃ xx : Int, Hid ([9007199254740993, -9007199254740993].getD rr.toNat 0 = xx) := ⟨_, rfl⟩; have MA := lit_own (w := w6) [9007199254740993, -9007199254740993] rr f1 (by simpa using f2); have MB : ∀ h, ([.int .i64 9007199254740993, .int .i64 (-9007199254740993)] : List Value)[rr.toNat]'h = .int .i64 xx := fun h => (lit_val [9007199254740993, -9007199254740993] rr.toNat h).trans (congrArg _ EX.out); rw [EX.out] at MA; have R6 := Lib.hid r6; obtain ⟨e0, e1, ef, el⟩ := r6.vv.cells; clear r6 o6) | (refine (nR b w rb kk _ q (valsZ zs) (World.alloc (World.drew w5) _) 2 (by decide) (by decide) (R5.out.drew.alloc _) hb hw).mono ?_; rintro e w6 ⟨rr, rfl, f1, f2, r6, o6⟩; obtain ⟨xx, EX⟩ : ∃ xx : Int, Hid ([9007199254740993, -9007199254740993].getD rr.toNat 0 = xx) := ⟨_, rfl⟩; have MA : w6.cell? ⟨w5.heap.size, rr.toNat, none⟩ = some (.int .i64 ([9007199254740993, -9007199254740993].getD rr.toNat 0)) := lit_cell (w := World.drew w5) [9007199254740993, -9007199254740993] o6 (Nat.lt_trans hb (Nat.lt_trans hw dl)) rr f1 (by simpa using f2); rw [EX.out] at MA; have R6 := Lib.hid r6; obtain ⟨e0, e1, ef, el⟩ := r6.vv.cells; clear r6 o6)) | (refine step_append_lies _ rfl (.tmp 39) (.tmp 45) 26 rfl (rb + 1) 2 i0 (.int .i64 0) 1 8 Tryd.underlying26 hi0 hz0 hz1 hz2 rfl (by decide) (.slice sl q cap) q (valsZ zs) (by simp [Act.eval]) (R6.out.alloc _).n ⟨w6.heap.size, 0, none⟩ 1 1 [.int .i64 xx] (by simp [Act.eval]) rfl (cell_one_new _ _ _) (by intro u hu; simp at hu; subst hu; rfl) (by decide) (by unfold maxLen; omega) (by omega) (by simp; omega) (w6.heap.size + 1) (by simp) ?_; intro g cap2 w9 hown9 hgrow hg9 hlt9; have R9 := Lib.hid ((R6.out.alloc _).app hw hown9 hgrow); have N9 := Lib.hid hown9; obtain ⟨h0, h1, hf, hl⟩ := R9.out.2.2.1.cells; clear hown9 hgrow hg9 hlt9) | (refine step_append_lies _ rfl (.tmp 39) (.tmp 45) 26 rfl (rb + 1) 2 i0 (.int .i64 0) 1 8 Tryd.underlying26 hi0 hz0 hz1 hz2 rfl (by decide) (.slice sl q cap) q (valsZ zs) (by simp [Act.eval]) ((R6.out.alloc _).alloc _).n ⟨(w6.alloc (.cells #[.int .i64 9007199254740993, .int .i64 (-9007199254740993)] 2)).heap.size, 0, none⟩ 1 1 [.int .i64 xx] (by simp [Act.eval]) rfl (cell_one_new _ _ _) (by intro u hu; simp at hu; subst hu; rfl) (by decide) (by unfold maxLen; omega) (by omega) (by simp; omega) (w6.heap.size + 2) (by simp) ?_; intro g cap2 w9 hown9 hgrow hg9 hlt9; have R9 := Lib.hid (((R6.out.alloc _).alloc _).app hw hown9 hgrow); have N9 := Lib.hid hown9; obtain ⟨h0, h1, hf, hl⟩ := R9.out.2.2.1.cells; clear hown9 hgrow hg9 hlt9))
          all_goals (
            obtain ⟨X9, Q9, FP⟩ := app_post xx HQ.out hq6 hw hb R9.out N9.out
            obtain ⟨t0, t1, tf, tl⟩ := X9.cells
            obtain ⟨j0, j1, jf, jl⟩ := Q9.cells
            clear X9 Q9 R9 N9 h0 h1 hf hl e0 e1 ef el d0 d1 df MA
            go_wp2
            exact bodyPost_ret (v := .agg #[.int .i64 kk, .slice (some ⟨g, 0, none⟩) (q + 1) cap2]) (by simp [results, Tryd.results58, go_sem, j0, j1]) rfl FP.out)
end Go.Proofs.YtnkdkbchendpmaaDoor
