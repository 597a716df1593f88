/-
  A TABLE's TEXT READ: impl.TableRead.
-/
import Derived.Test.YtdndhhkpbcpalaaDoorKg
namespace Go.Proofs.YtdndhhkpbcpalaaDoor
open Go.RowKit
set_option linter.unusedVariables false
set_option linter.unusedSimpArgs false

/-- What both tell of a text. -/
def RdPost (w : World) (s : ByteArray) (e : Ending) (w' : World) : Prop :=
  ∃ u1 u2 rs ps ln cd, e = .returned (.agg #[u1, u2, .int .i64 ln, .int .i64 cd]) ∧ OwT w' w.heap.size u1 u2 rs ps ∧ outS s = (bare rs, ps, ln, cd) ∧ Below w.heap.size w w'
theorem rd_err {w : World} {s : ByteArray} {ln cd : Int} {w' : World} (h : outS s = ([], [], ln, cd)) (hb : Below w.heap.size w w') : RdPost w s (.returned (.agg #[.slice none 0 0, .slice none 0 0, .int .i64 ln, .int .i64 cd])) w' :=
  ⟨_, _, [], [], ln, cd, rfl, OwT.nil w' _, h, hb⟩
def ResAt (w : World) (b : Nat) : Prop := w.heap[b]? = some (.cells #[.slice none 0 0, .slice none 0 0, .int .i64 0, .int .i64 0] 27)

set_option maxRecDepth 100000 in
set_option maxHeartbeats 1000000 in
theorem itr_long (s : ByteArray) (w : World) (h : 20000 < s.size) (hs : s.size ≤ 100000000) : Calls Tryd.prog 5 #[.string s] w fun e w' => RdPost w s e w' := by
  have h' : (20000 : Int) < (s.size : Int) := by omega
  have HF := Lib.hid (show outS s = ([], [], 0, 2) by unfold outS; rw [if_pos h])
  have M0 := new_at w (.cells #[.slice none 0 0, .slice none 0 0, .int .i64 0, .int .i64 0] 27)
  have B0 := Lib.hid (bA0 w (.cells #[.slice none 0 0, .slice none 0 0, .int .i64 0, .int .i64 0] 27))
  have c0 := cellsAt M0
  clear M0 h
  go_enter Tryd.func5, Tryd.ntmps5
  go_wp2
  have c2 := cellsAt (new_at w (.cells #[.slice none 0 0, .slice none 0 0, .int .i64 0, .int .i64 2] 27))
  exact bodyPost_ret (v := .agg #[.slice none 0 0, .slice none 0 0, .int .i64 0, .int .i64 2]) (by simp [results, Tryd.results5, go_sem, c2]) rfl (rd_err HF.out (bA0 _ _))

theorem OwT.keptM {w w' : World} {B : Nat} {v1 v2 : Value} {rs : List LSt} {ps : List LPr} {j : Nat} {cur : Array Value} (h : OwT w B v1 v2 rs ps) (hj : w.heap[j]? = some (.cells cur 27)) (hg : w.grownBy w' (some j)) : OwT w' B v1 v2 rs ps :=
  ⟨own_keptB h.r1 hj (by decide) hg, own_keptB h.r2 hj (by decide) hg, fun r hr => (h.dom r hr).keptB hj (by decide) hg, h.diff⟩
/-- What holds ahead of a line. -/
structure RI (w : World) (L : List (List UInt8)) (k : Nat) (v1 v2 : Value) (rs : List LSt) (ps : List LPr) (W : World) : Prop where
  ow : OwT W w.heap.size v1 v2 rs ps
  m0 : ResAt W w.heap.size
  m1 : W.heap[w.heap.size + 1]? = some (.cells (strs L).toArray 9)
  m2 : W.heap[w.heap.size + 2]? = some (.cells #[v1, v2] 25)
  bel : Below w.heap.size w W
  l1 : rs.length ≤ k
  l2 : ps.length ≤ k
  wf : ∀ p ∈ ps, WfP p
  run : runL 0 [] [] (L.take (L.length - 1)) = runL k (bare rs) ps ((L.take (L.length - 1)).drop k)
/-- The blocks that no line touches. -/
theorem keep_blk {C : Nat} {v1 v2 : Value} {rs : List LSt} {ps : List LPr} {W W' : World} (ho : OwT W C v1 v2 rs ps) (hk : Keep2 v1 v2 W W') {j : Nat} {cur : Array Value} {t : TypeId} (hj : W.heap[j]? = some (.cells cur t)) (h1 : (43 : TypeId) ≠ t) (h2 : (47 : TypeId) ≠ t) : W'.heap[j]? = some (.cells cur t) :=
  (hk j (Array.getElem?_eq_some_iff.1 hj).1 (own_diffB ho.r1 hj h1) (own_diffB ho.r2 hj h2)).trans hj
/-- Behind a right line. -/
theorem RI.step {w : World} {L : List (List UInt8)} {k : Nat} {v1 v2 u1 u2 : Value} {rs rs' : List LSt} {ps ps' : List LPr} {W W' : World} {l : List UInt8} (h : RI w L k v1 v2 rs ps W) (hl : L[k]? = some l) (hk : k < L.length - 1) (hK : Keep2 v1 v2 W W') (hb : Below w.heap.size W W') (ho : OwT W' w.heap.size u1 u2 rs' ps') (hr : lineP (bare rs) ps l = some (bare rs', ps')) :
    RI w L (k + 1) u1 u2 rs' ps' ((W'.setCell ⟨w.heap.size + 2, 0, none⟩ u1).setCell ⟨w.heap.size + 2, 1, none⟩ u2) := by
  have m0 := keep_blk h.ow hK h.m0 (by decide) (by decide)
  have m1 := keep_blk h.ow hK h.m1 (by decide) (by decide)
  have m2 := keep_blk h.ow hK h.m2 (by decide) (by decide)
  have m3 := heap_setCell_same W' (w.heap.size + 2) 0 _ 25 u1 m2
  have m4 := heap_setCell_same _ (w.heap.size + 2) 1 _ 25 u2 m3
  have g := line_grow hr
  have e : (L.take (L.length - 1)).drop k = l :: (L.take (L.length - 1)).drop (k + 1) := by
    have hlt : k < (L.take (L.length - 1)).length := by rw [List.length_take]; omega
    rw [List.drop_eq_getElem_cons hlt]
    congr 1
    have := (List.getElem?_eq_some_iff.1 hl).2
    simp [this]
  refine ⟨(ho.keptB m2 (grown_set _ _ _ _)).keptB m3 (grown_set _ _ _ _), ?_, ?_, by simpa using m4, (((h.bel.trans hb).setCell (p := ⟨w.heap.size + 2, 0, none⟩) (by show w.heap.size ≤ w.heap.size + 2; omega) u1).setCell (p := ⟨w.heap.size + 2, 1, none⟩) (by show w.heap.size ≤ w.heap.size + 2; omega) u2), by have := h.l1; omega, by have := h.l2; omega, fun p hp => ?_, ?_⟩
  · exact (((Below.heap_setCell _ _ _ _ (by show w.heap.size ≠ w.heap.size + 2; omega)).trans (Below.heap_setCell _ _ _ _ (by show w.heap.size ≠ w.heap.size + 2; omega)))).trans m0
  · exact (((Below.heap_setCell _ _ _ _ (by show w.heap.size + 1 ≠ w.heap.size + 2; omega)).trans (Below.heap_setCell _ _ _ _ (by show w.heap.size + 1 ≠ w.heap.size + 2; omega)))).trans m1
  · rcases g.2.2 p hp with hp | hp
    · exact h.wf p hp
    · exact hp
  · rw [h.run, e, runL_some hr]
theorem strs_at {w : World} {b : Nat} {L : List (List UInt8)} (h : w.heap[b]? = some (.cells (strs L).toArray 9)) (k : Nat) (l : List UInt8) (hl : L[k]? = some l) : w.cell? ⟨b, k, none⟩ = some (.string ⟨l.toArray⟩) := by
  rw [(cellsAt h).1 k]
  simp [strs, hl, strV]

set_option maxRecDepth 100000 in
set_option maxHeartbeats 4000000 in
/-- impl.TableRead. -/
theorem itr_read (s : ByteArray) (m : Int) (w : World) (hs : s.size ≤ 20000) (hm : w.cell? ⟨0, 0, none⟩ = some (.int .i64 m)) (h0 : 0 < w.heap.size) (hpw : PowTab w) (TR0 : TR38) : Calls Tryd.prog 5 #[.string s] w fun e w' => RdPost w s e w' := by
  have h' : ¬ (20000 : Int) < (s.size : Int) := by omega
  obtain ⟨L, hL⟩ : ∃ L, splitL 10 s.data.toList = L := ⟨_, rfl⟩
  have hLn : 1 ≤ L.length ∧ L.length ≤ 20001 := by
    have := split_len 10 s.data.toList
    rw [hL] at this
    have e : s.data.toList.length = s.size := rfl
    omega
  have hsm : Hid (∀ x ∈ L, x.length ≤ 20000) := fun x hx => by
    rw [← hL] at hx
    have := split_small 10 s.data.toList x hx
    have e : s.data.toList.length = s.size := rfl
    omega
  have HF : Hid (outS s = outF s.data.toList) := by show _ = _; unfold outS; rw [if_neg (by omega)]
  have HB : Hid (∀ k, runL 0 [] [] (L.take (L.length - 1)) = .inl k → outF s.data.toList = ([], [], (k : Int), 3)) := fun k h => by
    apply outF_bad
    rw [hL]; exact h
  have HE : Hid (∀ x, runL 0 [] [] (L.take (L.length - 1)) = .inr x → outF s.data.toList = if L.length - 1 = 0 ∨ L.getD (L.length - 1) [] ≠ [] then ([], [], ((L.length - 1 : Nat) : Int), 3) else (x.1, x.2, 0, 0)) := fun x h => by
    have := outF_end (t := s.data.toList) (x := x) (by rw [hL]; exact h)
    rwa [hL] at this
  have SP := Lib.hid (spl_go s m (w.alloc (.cells #[.slice none 0 0, .slice none 0 0, .int .i64 0, .int .i64 0] 27)) (by omega) (((bA0 w _).cell h0).trans hm))
  rw [hL] at SP
  have TR := Lib.hid TR0
  have HPW := Lib.hid hpw
  have M0 := Lib.hid (new_at w (.cells #[.slice none 0 0, .slice none 0 0, .int .i64 0, .int .i64 0] 27))
  have B0 := Lib.hid (bA0 w (.cells #[.slice none 0 0, .slice none 0 0, .int .i64 0, .int .i64 0] 27))
  have hz0 : (w.alloc (.cells #[.slice none 0 0, .slice none 0 0, .int .i64 0, .int .i64 0] 27)).heap.size = w.heap.size + 1 := by simp
  clear TR0 hpw hm hL
  go_enter Tryd.func5, Tryd.ntmps5
  go_wp2_with fail
  refine SP.out.mono ?_
  rintro e w2 ⟨rfl, rfl⟩
  have M01 := Lib.hid (((bA0 (w.alloc (.cells #[.slice none 0 0, .slice none 0 0, .int .i64 0, .int .i64 0] 27)) (.cells (strs L).toArray 9)).block w.heap.size (by omega)).trans M0.out)
  have M11 := new_at (w.alloc (.cells #[.slice none 0 0, .slice none 0 0, .int .i64 0, .int .i64 0] 27)) (.cells (strs L).toArray 9)
  rw [hz0] at M11
  have HM11 := Lib.hid M11
  have B1 := Lib.hid (bA B0.out (.cells (strs L).toArray 9))
  have hz1 : ((w.alloc (.cells #[.slice none 0 0, .slice none 0 0, .int .i64 0, .int .i64 0] 27)).alloc (.cells (strs L).toArray 9)).heap.size = w.heap.size + 2 := by simp
  rw [hz0]
  clear M11 SP M0 B0
  generalize (w.alloc (.cells #[.slice none 0 0, .slice none 0 0, .int .i64 0, .int .i64 0] 27)).alloc (.cells (strs L).toArray 9) = w2 at *
  clear hz0
  obtain ⟨n, hn⟩ : ∃ n, L.length = n + 1 := ⟨L.length - 1, by omega⟩
  have HN := Lib.hid hn
  rw [hn] at hLn
  have e1 : ((L.length : Int)) = (n : Int) + 1 := by omega
  have hn2 : n ≤ 20000 := by omega
  rw [hn]
  clear hn e1 hLn
  have M2 := new_at w2 (.cells #[.slice none 0 0, .slice none 0 0] 25)
  rw [hz1] at M2
  have R0 : Hid (RI w L 0 (.slice none 0 0) (.slice none 0 0) [] [] (w2.alloc (.cells #[.slice none 0 0, .slice none 0 0] 25))) := ⟨OwT.nil _ _, ((bA0 w2 _).block w.heap.size (by omega)).trans M01.out, ((bA0 w2 _).block (w.heap.size + 1) (by omega)).trans HM11.out, M2, bA B1.out _, Nat.le_refl _, Nat.le_refl _, (fun p hp => by cases hp), rfl⟩
  clear M2 M01 HM11 B1
  go_wp2_with fail
  generalize w2.alloc (.cells #[.slice none 0 0, .slice none 0 0] 25) = w3 at *
  go_loopw [23] (fun t wr => ∃ (k : Nat) (v1 v2 : Value) (rs : List LSt) (ps : List LPr), t = .int .i64 k ∧ k ≤ n ∧ Hid (RI w L k v1 v2 rs ps wr)) (fun t _ => n - (intOf t).toNat)
  case atStart => exact ⟨0, _, _, [], [], rfl, Nat.zero_le _, R0.out⟩
  case round =>
    obtain ⟨k, v1, v2, rs, ps, rfl, hk, H0⟩ := hrel
    have hk0 : (0 : Int) ≤ (k : Int) := by omega
    obtain ⟨a1, a2, a3, rfl⟩ := IsSl.own H0.out.ow.r1
    obtain ⟨d1, d2, d3, rfl⟩ := IsSl.own H0.out.ow.r2
    have c2 := cellsAt H0.out.m2
    by_cases h1 : k < n
    · have h1' : (k : Int) < (n : Int) := by omega
      obtain ⟨l, hl⟩ : ∃ l, L[k]? = some l := ⟨_, List.getElem?_eq_getElem (by rw [HN.out]; omega)⟩
      have q1 := strs_at H0.out.m1 k l hl
      have hlm := hsm.out l (List.mem_of_getElem? hl)
      have WL : Hid (Calls Tryd.prog 12 #[.agg #[.slice a1 a2 a3, .slice d1 d2 d3], .string ⟨l.toArray⟩] wr fun e w' => LinePost w.heap.size (.slice a1 a2 a3) (.slice d1 d2 d3) wr (lineP (bare rs) ps l) e w') := by
        have := wl_any w.heap.size (.slice a1 a2 a3) (.slice d1 d2 d3) rs ps ⟨l.toArray⟩ wr H0.out.ow H0.out.bel.size (by have := H0.out.l1; omega) (by have := H0.out.l2; omega) H0.out.wf (by simpa [ByteArray.size] using hlm) (HPW.out.below H0.out.bel) TR.out
        show Calls _ _ _ _ _
        simpa using this
      have HLl := Lib.hid hl
      clear hl hlm R0
      go_wp2_with fail
      refine WL.out.mono ?_
      rintro e w6 ⟨u1, u2, ok, rfl, ⟨x1, x2, x3, rfl⟩, ⟨y1, y2, y3, rfl⟩, b6, k6, hr6⟩
      have M26 := keep_blk H0.out.ow k6 H0.out.m2 (by decide) (by decide)
      have M06 := keep_blk H0.out.ow k6 H0.out.m0 (by decide) (by decide)
      have c6 := cellsAt M26
      have M07 : Hid (ResAt ((w6.setCell ⟨w.heap.size + 2, 0, none⟩ (.slice x1 x2 x3)).setCell ⟨w.heap.size + 2, 1, none⟩ (.slice y1 y2 y3)) w.heap.size) := (((Below.heap_setCell _ _ _ _ (by show w.heap.size ≠ w.heap.size + 2; omega)).trans (Below.heap_setCell _ _ _ _ (by show w.heap.size ≠ w.heap.size + 2; omega)))).trans M06
      have B7 := Lib.hid (((H0.out.bel.trans b6).setCell (p := ⟨w.heap.size + 2, 0, none⟩) (by show w.heap.size ≤ w.heap.size + 2; omega) (.slice x1 x2 x3)).setCell (p := ⟨w.heap.size + 2, 1, none⟩) (by show w.heap.size ≤ w.heap.size + 2; omega) (.slice y1 y2 y3))
      cases ok with
      | false =>
        have HO : Hid (outS s = ([], [], (k : Int), 3)) := by
          show _ = _
          rw [HF.out]
          apply HB.out
          rw [H0.out.run]
          have hlt : k < (L.take (L.length - 1)).length := by rw [List.length_take, HN.out]; omega
          rw [List.drop_eq_getElem_cons hlt]
          have hll : (L.take (L.length - 1))[k] = l := by have := (List.getElem?_eq_some_iff.1 HLl.out).2; simp [this]
          rw [hll]
          rcases hr6 with hh | hh
          · exact runL_none hh.2
          · exact absurd hh.1 (by simp)
        have c7 := cellsAt M07.out
        clear hr6 b6 k6 M26 M06 WL HLl
        go_wp2_with fail
        generalize (w6.setCell ⟨w.heap.size + 2, 0, none⟩ (.slice x1 x2 x3)).setCell ⟨w.heap.size + 2, 1, none⟩ (.slice y1 y2 y3) = w7 at *
        have MS0 := heap_setCell_same w7 w.heap.size 0 _ 27 (.slice none 0 0) M07.out
        have MS1 := heap_setCell_same (w7.setCell ⟨w.heap.size, 0, none⟩ (.slice none 0 0)) w.heap.size 1 _ 27 (.slice none 0 0) MS0
        have MS2 := heap_setCell_same ((w7.setCell ⟨w.heap.size, 0, none⟩ (.slice none 0 0)).setCell ⟨w.heap.size, 1, none⟩ (.slice none 0 0)) w.heap.size 2 _ 27 (.int .i64 (k : Int)) MS1
        have MS3 := heap_setCell_same (((w7.setCell ⟨w.heap.size, 0, none⟩ (.slice none 0 0)).setCell ⟨w.heap.size, 1, none⟩ (.slice none 0 0)).setCell ⟨w.heap.size, 2, none⟩ (.int .i64 (k : Int))) w.heap.size 3 _ 27 (.int .i64 3) MS2
        have BS := Lib.hid ((((B7.out.setCell (p := ⟨w.heap.size, 0, none⟩) (Nat.le_refl _) (.slice none 0 0)).setCell (p := ⟨w.heap.size, 1, none⟩) (Nat.le_refl _) (.slice none 0 0)).setCell (p := ⟨w.heap.size, 2, none⟩) (Nat.le_refl _) (.int .i64 (k : Int))).setCell (p := ⟨w.heap.size, 3, none⟩) (Nat.le_refl _) (.int .i64 3))
        generalize (((w7.setCell ⟨w.heap.size, 0, none⟩ (.slice none 0 0)).setCell ⟨w.heap.size, 1, none⟩ (.slice none 0 0)).setCell ⟨w.heap.size, 2, none⟩ (.int .i64 (k : Int))).setCell ⟨w.heap.size, 3, none⟩ (.int .i64 3) = w8 at *
        have z0 : w8.cell? ⟨w.heap.size, 0, none⟩ = some (.slice none 0 0) := by rw [(cellsAt MS3).1]; rfl
        have z1 : w8.cell? ⟨w.heap.size, 1, none⟩ = some (.slice none 0 0) := by rw [(cellsAt MS3).1]; rfl
        have z2 : w8.cell? ⟨w.heap.size, 2, none⟩ = some (.int .i64 (k : Int)) := by rw [(cellsAt MS3).1]; rfl
        have z3 : w8.cell? ⟨w.heap.size, 3, none⟩ = some (.int .i64 3) := by rw [(cellsAt MS3).1]; rfl
        exact bodyPost_ret (v := .agg #[.slice none 0 0, .slice none 0 0, .int .i64 (k : Int), .int .i64 3]) (by simp [results, Tryd.results5, go_sem, z0, z1, z2, z3]) rfl (rd_err HO.out BS.out)
      | true =>
        have R7 : Hid (∃ rs' ps', RI w L (k + 1) (.slice x1 x2 x3) (.slice y1 y2 y3) rs' ps' ((w6.setCell ⟨w.heap.size + 2, 0, none⟩ (.slice x1 x2 x3)).setCell ⟨w.heap.size + 2, 1, none⟩ (.slice y1 y2 y3))) := by
          rcases hr6 with hh | ⟨-, rs', ps', ho, hh⟩
          · exact absurd hh.1 (by simp)
          · exact ⟨rs', ps', H0.out.step HLl.out (by rw [HN.out]; omega) k6 b6 ho hh⟩
        clear hr6 b6 k6 M26 M06 WL HLl M07 B7
        go_wp2_with fail
        generalize (w6.setCell ⟨w.heap.size + 2, 0, none⟩ (.slice x1 x2 x3)).setCell ⟨w.heap.size + 2, 1, none⟩ (.slice y1 y2 y3) = w7 at *
        go_roundw
        case rel =>
          obtain ⟨rs', ps', hR⟩ := R7.out
          exact ⟨k + 1, _, _, rs', ps', by go_num, by omega, hR⟩
        case measure => simp [intOf]; omega
    · have h1' : ¬ (k : Int) < (n : Int) := by omega
      obtain rfl : k = n := by omega
      obtain ⟨l, hl⟩ : ∃ l, L[k]? = some l := ⟨_, List.getElem?_eq_getElem (by rw [HN.out]; omega)⟩
      have q1 := strs_at H0.out.m1 k l hl
      have hgd : L.getD (L.length - 1) [] = l := by rw [HN.out, Nat.add_sub_cancel, List.getD_eq_getElem?_getD, hl, Option.getD_some]
      have HO := Lib.hid (HF.out.trans (HE.out (bare rs, ps) (by
        rw [H0.out.run, List.drop_of_length_le (by rw [List.length_take, HN.out]; omega)]
        rfl)))
      rw [hgd, HN.out, Nat.add_sub_cancel] at HO
      have c0 := cellsAt H0.out.m0
      clear hgd hl hk h1 R0
      by_cases hz : k = 0
      · subst hz
        have HOX : Hid (outS s = ([], [], 0, 3)) := by
          show _ = _
          rw [HO.out, if_pos (.inl rfl)]
          rfl
        clear HO
        go_wp2_with fail
        have MS0 := heap_setCell_same wr w.heap.size 0 _ 27 (.slice none 0 0) H0.out.m0
        have MS1 := heap_setCell_same (wr.setCell ⟨w.heap.size, 0, none⟩ (.slice none 0 0)) w.heap.size 1 _ 27 (.slice none 0 0) MS0
        have MS2 := heap_setCell_same ((wr.setCell ⟨w.heap.size, 0, none⟩ (.slice none 0 0)).setCell ⟨w.heap.size, 1, none⟩ (.slice none 0 0)) w.heap.size 2 _ 27 (.int .i64 0) MS1
        have MS3 := heap_setCell_same (((wr.setCell ⟨w.heap.size, 0, none⟩ (.slice none 0 0)).setCell ⟨w.heap.size, 1, none⟩ (.slice none 0 0)).setCell ⟨w.heap.size, 2, none⟩ (.int .i64 0)) w.heap.size 3 _ 27 (.int .i64 3) MS2
        have BS := Lib.hid ((((H0.out.bel.setCell (p := ⟨w.heap.size, 0, none⟩) (Nat.le_refl _) (.slice none 0 0)).setCell (p := ⟨w.heap.size, 1, none⟩) (Nat.le_refl _) (.slice none 0 0)).setCell (p := ⟨w.heap.size, 2, none⟩) (Nat.le_refl _) (.int .i64 0)).setCell (p := ⟨w.heap.size, 3, none⟩) (Nat.le_refl _) (.int .i64 3))
        generalize (((wr.setCell ⟨w.heap.size, 0, none⟩ (.slice none 0 0)).setCell ⟨w.heap.size, 1, none⟩ (.slice none 0 0)).setCell ⟨w.heap.size, 2, none⟩ (.int .i64 0)).setCell ⟨w.heap.size, 3, none⟩ (.int .i64 3) = w8 at *
        have z0 : w8.cell? ⟨w.heap.size, 0, none⟩ = some (.slice none 0 0) := by rw [(cellsAt MS3).1]; rfl
        have z1 : w8.cell? ⟨w.heap.size, 1, none⟩ = some (.slice none 0 0) := by rw [(cellsAt MS3).1]; rfl
        have z2 : w8.cell? ⟨w.heap.size, 2, none⟩ = some (.int .i64 0) := by rw [(cellsAt MS3).1]; rfl
        have z3 : w8.cell? ⟨w.heap.size, 3, none⟩ = some (.int .i64 3) := by rw [(cellsAt MS3).1]; rfl
        exact bodyPost_ret (v := .agg #[.slice none 0 0, .slice none 0 0, .int .i64 0, .int .i64 3]) (by simp [results, Tryd.results5, go_sem, z0, z1, z2, z3]) rfl (rd_err HOX.out BS.out)
      · have hz1 : ((k : Int) == 0) = false := by rw [beq_eq_false_iff_ne]; omega
        have hz2 : ((k : Int) = 0) = False := eq_false (by omega)
        have hz3 : (k = 0) = False := eq_false hz
        by_cases hl : l = []
        · subst hl
          have HOX : Hid (outS s = (bare rs, ps, 0, 0)) := by
            show _ = _
            rw [HO.out, if_neg (by rintro (h | h); exact hz h; exact h rfl)]
          clear HO
          go_wp2_with fail
          have MS0 := heap_setCell_same wr w.heap.size 0 _ 27 (.slice a1 a2 a3) H0.out.m0
          have MS1 := heap_setCell_same (wr.setCell ⟨w.heap.size, 0, none⟩ (.slice a1 a2 a3)) w.heap.size 1 _ 27 (.slice d1 d2 d3) MS0
          have MS2 := heap_setCell_same ((wr.setCell ⟨w.heap.size, 0, none⟩ (.slice a1 a2 a3)).setCell ⟨w.heap.size, 1, none⟩ (.slice d1 d2 d3)) w.heap.size 2 _ 27 (.int .i64 0) MS1
          have MS3 := heap_setCell_same (((wr.setCell ⟨w.heap.size, 0, none⟩ (.slice a1 a2 a3)).setCell ⟨w.heap.size, 1, none⟩ (.slice d1 d2 d3)).setCell ⟨w.heap.size, 2, none⟩ (.int .i64 0)) w.heap.size 3 _ 27 (.int .i64 0) MS2
          have BS := Lib.hid ((((H0.out.bel.setCell (p := ⟨w.heap.size, 0, none⟩) (Nat.le_refl _) (.slice a1 a2 a3)).setCell (p := ⟨w.heap.size, 1, none⟩) (Nat.le_refl _) (.slice d1 d2 d3)).setCell (p := ⟨w.heap.size, 2, none⟩) (Nat.le_refl _) (.int .i64 0)).setCell (p := ⟨w.heap.size, 3, none⟩) (Nat.le_refl _) (.int .i64 0))
          have OS := Lib.hid ((((H0.out.ow.keptM H0.out.m0 (grown_set _ w.heap.size 0 (.slice a1 a2 a3))).keptM MS0 (grown_set _ w.heap.size 1 (.slice d1 d2 d3))).keptM MS1 (grown_set _ w.heap.size 2 (.int .i64 0))).keptM MS2 (grown_set _ w.heap.size 3 (.int .i64 0)))
          generalize (((wr.setCell ⟨w.heap.size, 0, none⟩ (.slice a1 a2 a3)).setCell ⟨w.heap.size, 1, none⟩ (.slice d1 d2 d3)).setCell ⟨w.heap.size, 2, none⟩ (.int .i64 0)).setCell ⟨w.heap.size, 3, none⟩ (.int .i64 0) = w8 at *
          have z0 : w8.cell? ⟨w.heap.size, 0, none⟩ = some (.slice a1 a2 a3) := by rw [(cellsAt MS3).1]; rfl
          have z1 : w8.cell? ⟨w.heap.size, 1, none⟩ = some (.slice d1 d2 d3) := by rw [(cellsAt MS3).1]; rfl
          have z2 : w8.cell? ⟨w.heap.size, 2, none⟩ = some (.int .i64 0) := by rw [(cellsAt MS3).1]; rfl
          have z3 : w8.cell? ⟨w.heap.size, 3, none⟩ = some (.int .i64 0) := by rw [(cellsAt MS3).1]; rfl
          exact bodyPost_ret (v := .agg #[.slice a1 a2 a3, .slice d1 d2 d3, .int .i64 0, .int .i64 0]) (by simp [results, Tryd.results5, go_sem, z0, z1, z2, z3]) rfl ⟨_, _, rs, ps, 0, 0, rfl, OS.out, HOX.out, BS.out⟩
        · have HOX : Hid (outS s = ([], [], (k : Int), 3)) := by
            show _ = _
            rw [HO.out, if_pos (.inr hl)]
          have he : l.isEmpty = false := by cases l with | nil => exact absurd rfl hl | cons _ _ => rfl
          have he2 : (l = []) = False := eq_false hl
          clear HO
          go_wp2_with fail
          have MS0 := heap_setCell_same wr w.heap.size 0 _ 27 (.slice none 0 0) H0.out.m0
          have MS1 := heap_setCell_same (wr.setCell ⟨w.heap.size, 0, none⟩ (.slice none 0 0)) w.heap.size 1 _ 27 (.slice none 0 0) MS0
          have MS2 := heap_setCell_same ((wr.setCell ⟨w.heap.size, 0, none⟩ (.slice none 0 0)).setCell ⟨w.heap.size, 1, none⟩ (.slice none 0 0)) w.heap.size 2 _ 27 (.int .i64 (k : Int)) MS1
          have MS3 := heap_setCell_same (((wr.setCell ⟨w.heap.size, 0, none⟩ (.slice none 0 0)).setCell ⟨w.heap.size, 1, none⟩ (.slice none 0 0)).setCell ⟨w.heap.size, 2, none⟩ (.int .i64 (k : Int))) w.heap.size 3 _ 27 (.int .i64 3) MS2
          have BS := Lib.hid ((((H0.out.bel.setCell (p := ⟨w.heap.size, 0, none⟩) (Nat.le_refl _) (.slice none 0 0)).setCell (p := ⟨w.heap.size, 1, none⟩) (Nat.le_refl _) (.slice none 0 0)).setCell (p := ⟨w.heap.size, 2, none⟩) (Nat.le_refl _) (.int .i64 (k : Int))).setCell (p := ⟨w.heap.size, 3, none⟩) (Nat.le_refl _) (.int .i64 3))
          generalize (((wr.setCell ⟨w.heap.size, 0, none⟩ (.slice none 0 0)).setCell ⟨w.heap.size, 1, none⟩ (.slice none 0 0)).setCell ⟨w.heap.size, 2, none⟩ (.int .i64 (k : Int))).setCell ⟨w.heap.size, 3, none⟩ (.int .i64 3) = w8 at *
          have z0 : w8.cell? ⟨w.heap.size, 0, none⟩ = some (.slice none 0 0) := by rw [(cellsAt MS3).1]; rfl
          have z1 : w8.cell? ⟨w.heap.size, 1, none⟩ = some (.slice none 0 0) := by rw [(cellsAt MS3).1]; rfl
          have z2 : w8.cell? ⟨w.heap.size, 2, none⟩ = some (.int .i64 (k : Int)) := by rw [(cellsAt MS3).1]; rfl
          have z3 : w8.cell? ⟨w.heap.size, 3, none⟩ = some (.int .i64 3) := by rw [(cellsAt MS3).1]; rfl
          exact bodyPost_ret (v := .agg #[.slice none 0 0, .slice none 0 0, .int .i64 (k : Int), .int .i64 3]) (by simp [results, Tryd.results5, go_sem, z0, z1, z2, z3]) rfl (rd_err HOX.out BS.out)

end Go.Proofs.YtdndhhkpbcpalaaDoor
