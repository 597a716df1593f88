/-
  CLAUSES AS LINES BEHIND A HEAD: impl.clausesText.
-/
import Derived.Test.YtllaiigjkchahaaDoorBd
namespace Go.Proofs.YtllaiigjkchahaaDoor
open Go.RowKit
set_option linter.unusedVariables false

/-- Lines of small literals, none too long. -/
def LinesOk (css : List (List Int)) : Prop := css.length ≤ 4000 ∧ ∀ zs ∈ css, zs.length ≤ 96 ∧ SmallL zs
theorem allB_le' {css : List (List Int)} (h : ∀ zs ∈ css, zs.length ≤ 96 ∧ SmallL zs) : (allB css).length ≤ 2200 * css.length := by
  induction css with
  | nil => simp [allB]
  | cons a r ih =>
    have h0 := h a (List.mem_cons_self ..)
    have h1 := lits_le a h0.2
    have h2 := ih (fun z hz => h z (List.mem_cons_of_mem _ hz))
    simp only [allB, lineB, List.flatMap_cons, List.length_append, List.length_cons, List.length_nil] at *
    omega
theorem new_bd (w : World) : Bd w.heap.size w.heap.size (Lib.byteCells []) (w.alloc (.cells #[.pointer none, .slice none 0 0] 55)) :=
  .inl ⟨Nat.le_refl _, .slice none 0 0, by show (w.heap.push _)[w.heap.size]? = _; simp, ⟨rfl, .inl ⟨rfl, rfl⟩⟩, by simp [Value.ownBlock]⟩
theorem bd_below {B b : Nat} {l : List Value} {w w' : World} (h : Bd B b l w) (hb : Below w.heap.size w w') : Bd B b l w' := by
  have one : ∀ p, Lib.BuilderAt 55 5 B b p l w → Lib.BuilderAt 55 5 B b p l w' := fun p hp => by
    obtain ⟨h1, v, h2, h3, h4⟩ := hp
    exact ⟨h1, v, (hb.block b (Array.getElem?_eq_some_iff.1 h2).1).trans h2, own_below h3 hb, h4⟩
  rcases h with h | h
  · exact .inl (one _ h)
  · exact .inr (one _ h)
theorem ws_text {B b : Nat} {l : List UInt8} {w : World} (d : List UInt8) (h : Bd B b (Lib.byteCells l) w) (hlen : l.length + d.length ≤ 140737488355328) (hBw : B ≤ w.heap.size) :
    Calls Tryd.prog 27 #[.pointer (some ⟨b, 0, none⟩), .string ⟨d.toArray⟩] w fun e w' => e = .returned (.tuple #[.int .i64 d.length, .nilIface]) ∧ Bd B b (Lib.byteCells (l ++ d)) w' ∧ Below B w w' := by
  have := ws_any B b (Lib.byteCells l) ⟨d.toArray⟩ w h (by rw [Lib.byteCells_length]; simpa [ByteArray.size] using hlen) hBw
  refine this.mono ?_
  rintro e w' ⟨rfl, hb, bl⟩
  refine ⟨by simp [ByteArray.size], ?_, bl⟩
  rw [Lib.byteCells_append]
  exact hb

set_option maxRecDepth 100000 in
set_option maxHeartbeats 2000000 in
/-- impl.clausesText. -/
theorem ct_any (hd : List UInt8) (sl : Option Addr) (cap : Nat) (css : List (List Int)) (w : World) (hh : hd.length ≤ 100000) (hc : LinesOk css) (hz : RowC w css sl) (ht : PowTab w) :
    Calls Tryd.prog 38 #[.string ⟨hd.toArray⟩, .slice sl css.length cap] w fun e w' => e = .returned (.string ⟨(if (hd ++ allB css).length ≤ 20000 then hd ++ allB css else []).toArray⟩) ∧ Below w.heap.size w w' := by
  have HR := Lib.hid hz
  have HT := Lib.hid ht
  have HC := Lib.hid hc.2
  have hn4 := hc.1
  have AL := Lib.hid (allB_le' hc.2)
  have HX0 := Lib.hid (new_bd w)
  have B0 := Lib.hid (bA0 w (.cells #[.pointer none, .slice none 0 0] 55))
  clear hz ht hc
  generalize hRes : (if (hd ++ allB css).length ≤ 20000 then hd ++ allB css else []) = res at *
  have HRES := Lib.hid hRes
  clear hRes
  generalize hN : css.length = n at *
  have HN := Lib.hid hN
  clear hN
  go_enter Tryd.func38, Tryd.ntmps38
  go_wp2_with fail
  have E0 := Lib.hid (ws_text hd HX0.out (by simp; omega) (by simp))
  generalize w.alloc (.cells #[.pointer none, .slice none 0 0] 55) = w0 at *
  refine E0.out.mono ?_
  rintro e w1 ⟨rfl, x1, b1⟩
  have X1 := Lib.hid x1
  have D1 := Lib.hid (B0.out.trans b1)
  rw [List.nil_append] at X1
  clear x1 b1 E0 HX0 B0
  go_wp2_with fail
  go_loopw [15] (fun i wr => ∃ (k : Nat) (l : List UInt8), i = .int .i64 k ∧ k ≤ n ∧ l.length ≤ 200000 + 2200 * k ∧ Hid (l = hd ++ allB (css.take k)) ∧ Hid (Bd w.heap.size w.heap.size (Lib.byteCells l) wr) ∧ Hid (Below w.heap.size w wr)) (fun i _ => n - (intOf i).toNat)
  case atStart => exact ⟨0, hd, rfl, Nat.zero_le _, by omega, (by show hd = hd ++ allB (css.take 0); simp [allB]), X1, D1⟩
  case round =>
    obtain ⟨k, l, rfl, hk, hll, HL, XB, HB⟩ := hrel
    have hk0 : (0 : Int) ≤ (k : Int) := by omega
    by_cases g1 : k < n
    · have g1' : (k : Int) < (n : Int) := by omega
      have hlt : k < css.length := by rw [HN.out]; exact g1
      obtain ⟨c, o, s, scap, rfl, hcl, hcc, hii, hmm⟩ := HR.out k hlt
      have hc := (HB.out.cell (p := ⟨c, o + k, none⟩) hcl).trans hcc
      have S1 := Lib.hid (allB_step css k hlt)
      obtain ⟨h96, hsm⟩ := HC.out css[k] (List.getElem_mem hlt)
      have SM := Lib.hid hsm
      have HI := Lib.hid hii
      clear hcc hii hmm hsm
      generalize css[k] = zs at *
      clear hlt
      generalize hM : zs.length = m at *
      have HM := Lib.hid hM
      clear hM
      go_wp2_with fail
      go_loopw [21] (fun i wq => ∃ (j : Nat) (q : List UInt8), i = .int .i64 j ∧ j ≤ m ∧ q.length ≤ l.length + 22 * j ∧ Hid (q = l ++ (zs.take j).flatMap litB) ∧ Hid (Bd w.heap.size w.heap.size (Lib.byteCells q) wq) ∧ Hid (Below w.heap.size w wq)) (fun i _ => m - (intOf i).toNat)
      case atStart => exact ⟨0, l, rfl, Nat.zero_le _, Nat.le_refl _, (by show l = l ++ (zs.take 0).flatMap litB; simp), XB, HB⟩
      case round =>
        clear XB HB hc
        obtain ⟨j, q, rfl, hj, hql, HQ, XB, HB⟩ := hrel
        have hj0 : (0 : Int) ≤ (j : Int) := by omega
        have hwb := HB.out.size
        by_cases g2 : j < m
        · have g2' : (j : Int) < (m : Int) := by omega
          have hlt : j < zs.length := by rw [HM.out]; exact g2
          obtain ⟨ic, io, rfl, ZI⟩ : ∃ c o, s = some ⟨c, o, none⟩ ∧ IntsAt w c o zs := by
            rcases HI.out with e | h
            · rw [e] at hlt; simp at hlt
            · exact h
          have hc := (HB.out.cell (p := ⟨ic, io + j, none⟩) ZI.1).trans (ZI.2 j hlt)
          have hzz := SM.out (zs.getD j 0) (by rw [List.getD_eq_getElem?_getD, List.getElem?_eq_getElem hlt]; exact List.getElem_mem hlt)
          have E1 := Lib.hid (fi_any (zs.getD j 0) (by omega) (by omega) wr (HT.out.below HB.out))
          have ST := Lib.hid (lits_step zs j hlt)
          have hdl := itoa_le _ hzz
          clear hlt ZI
          generalize Lib.itoa (zs.getD j 0) = d at *
          generalize zs.getD j 0 = z at *
          go_wp2_with fail
          refine E1.out.mono ?_
          rintro e w2 ⟨rfl, b2⟩
          have X2 : Hid (Bd w.heap.size w.heap.size (Lib.byteCells q) w2) := Lib.hid (bd_below XB.out b2)
          have E2 := Lib.hid (ws_text d X2.out (by omega) (by have := b2.size; omega))
          have D2 := Lib.hid (bT HB.out b2)
          clear b2 E1
          go_wp2_with fail
          refine E2.out.mono ?_
          rintro e w3 ⟨rfl, x3, b3⟩
          have X3 := Lib.hid x3
          have D3 := Lib.hid (D2.out.trans b3)
          have E3 := Lib.hid (ws_text [32] x3 (by simp; omega) (by have := D3.out.size; omega))
          clear x3 b3 E2
          go_wp2_with fail
          refine E3.out.mono ?_
          rintro e w4 ⟨rfl, x4, b4⟩
          have X4 := Lib.hid x4
          have D4 := Lib.hid (D3.out.trans b4)
          have NQ : Hid (q ++ d ++ [32] = l ++ (zs.take (j + 1)).flatMap litB) := by rw [HQ.out, ST.out]; exact Lib.hid (by simp)
          have hq4 : (q ++ d ++ [32]).length ≤ l.length + 22 * (j + 1) := by simp; omega
          clear x4 b4 E3 HQ ST XB HB X2 X3 D2 D3
          go_wp2
          go_roundw
          case rel => exact ⟨j + 1, q ++ d ++ [32], by go_num, by omega, hq4, NQ, X4, D4⟩
          case measure => simp [intOf]; omega
        · have g2' : ¬ (j : Int) < (m : Int) := by omega
          have E3 := Lib.hid (ws_text [48, 10] XB.out (by simp; omega) hwb)
          have NL : Hid (q ++ [48, 10] = hd ++ allB (css.take (k + 1))) := by
            rw [HQ.out, List.take_of_length_le (by rw [HM.out]; omega), S1.out, HL.out]
            exact Lib.hid (by simp [lineB])
          have hl4 : (q ++ [48, 10]).length ≤ 200000 + 2200 * (k + 1) := by simp; omega
          go_wp2_with fail
          refine E3.out.mono ?_
          rintro e w4 ⟨rfl, x4, b4⟩
          have X4 := Lib.hid x4
          have D4 := Lib.hid (HB.out.trans b4)
          clear x4 b4 E3 HQ XB HB
          go_wp2
          go_roundw
          case rel => exact ⟨k + 1, q ++ [48, 10], by go_num, by omega, hl4, NL, X4, D4⟩
          case measure => simp [intOf]; omega
    · have g1' : ¬ (k : Int) < (n : Int) := by omega
      have NL : Hid (l = hd ++ allB css) := by
        have := HL.out
        rwa [List.take_of_length_le (by rw [HN.out]; omega)] at this
      have hwb := HB.out.size
      have E1 := Lib.hid (Tryd.Builder_Len w.heap.size w.heap.size (Lib.byteCells l) wr XB.out)
      rw [Lib.byteCells_length] at E1
      have E2 := Lib.hid (Tryd.Builder_String_any w.heap.size w.heap.size l wr XB.out hwb)
      clear HL XB
      by_cases g2 : l.length ≤ 20000
      · have g2' : ¬ (20000 : Int) < (l.length : Int) := by omega
        have LT := Lib.hid (show res = l by rw [← HRES.out, ← NL.out, if_pos g2])
        clear NL
        go_wp2_with (first | (go_at_call 47; refine E1.out.mono ?_; rintro e w2 ⟨rfl, rfl⟩) | (go_at_call 28; refine E2.out.mono ?_; rintro e w2 ⟨rfl, b2⟩; have D2 := Lib.hid (HB.out.trans b2)))
        go_ret
        exact ⟨by rw [LT.out]; rfl, D2.out⟩
      · have g2' : (20000 : Int) < (l.length : Int) := by omega
        have LT := Lib.hid (show res = [] by rw [← HRES.out, ← NL.out, if_neg g2])
        clear NL
        go_wp2_with (first | (go_at_call 47; refine E1.out.mono ?_; rintro e w2 ⟨rfl, rfl⟩))
        go_ret
        exact ⟨by rw [LT.out]; rfl, HB.out⟩
end Go.Proofs.YtllaiigjkchahaaDoor
