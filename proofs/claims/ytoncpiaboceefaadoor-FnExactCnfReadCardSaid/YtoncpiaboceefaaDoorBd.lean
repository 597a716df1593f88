/-
  LEMMAS AS TEXT, AS THE MODEL TELLS THEM: spec.LemmasText.
-/
import Derived.Test.YtoncpiaboceefaaDoorBc
import Derived.Test.YtoncpiaboceefaaDoorQc
namespace Go.Proofs.YtoncpiaboceefaaDoor
open Go.RowKit
set_option linter.unusedVariables false

/-- The text of lemmas. -/
noncomputable def lemT (css : List (List Int)) : List UInt8 := if (decide (css.length ≤ 400) && css.all lemB) = true then (if (allB css).length ≤ 20000 then allB css else []) else []
theorem lemT_long {css : List (List Int)} (h : 400 < css.length) : lemT css = [] := by
  unfold lemT; rw [decide_eq_false (by omega)]; rfl
theorem lemT_bad {css : List (List Int)} (h : css.all lemB = false) : lemT css = [] := by
  unfold lemT; rw [h, Bool.and_false]; rfl
theorem lemT_good {css : List (List Int)} (h1 : css.length ≤ 400) (h2 : css.all lemB = true) : lemT css = if (allB css).length ≤ 20000 then allB css else [] := by
  unfold lemT; rw [decide_eq_true h1, h2]; rfl
theorem lineB_le {zs : List Int} (h : lemB zs = true) : (lineB zs).length ≤ 2200 := by
  have h1 := lemB_len h
  have h2 := lits_le zs (lemB_small h)
  unfold lineB
  rw [List.length_append]
  show _ + 2 ≤ 2200
  omega
theorem allB_le {css : List (List Int)} (h : css.all lemB = true) : (allB css).length ≤ 2200 * css.length := by
  induction css with
  | nil => simp [allB]
  | cons a r ih =>
    simp only [List.all_cons, Bool.and_eq_true] at h
    have h1 := lineB_le h.1
    have h2 := ih h.2
    simp only [allB, List.flatMap_cons, List.length_append, List.length_cons] at *
    omega
theorem allB_step (css : List (List Int)) (k : Nat) (h : k < css.length) : allB (css.take (k + 1)) = allB (css.take k) ++ lineB css[k] := by
  unfold allB
  rw [List.take_succ_eq_append_getElem h, List.flatMap_append]
  simp
theorem allL_step (css : List (List Int)) (k : Nat) (h : k < css.length) : (css.take (k + 1)).all lemB = ((css.take k).all lemB && lemB css[k]) := by
  rw [List.take_succ_eq_append_getElem h, List.all_append]
  simp
theorem allL_no (css : List (List Int)) (k : Nat) (h : k < css.length) (hb : lemB css[k] = false) : css.all lemB = false := by
  rw [List.all_eq_false]
  exact ⟨css[k], List.getElem_mem h, by rw [hb]; exact Bool.false_ne_true⟩
theorem own_e5 (w : World) : (w.alloc (.cells #[] 5)).ownsRow w.heap.size 5 1 (.slice (some ⟨w.heap.size, 0, none⟩) 0 0) 0 (Lib.byteCells []) :=
  ⟨rfl, .inr ⟨w.heap.size, 0, #[], rfl, Nat.le_refl _, by show (w.heap.push _)[w.heap.size]? = _; simp, Nat.le_refl _, Nat.zero_le _, rfl, rfl⟩⟩
/-- The rows that the clauses are. -/
def RowC (w : World) (css : List (List Int)) (sl : Option Addr) : Prop := ∀ k (h : k < css.length), ∃ c o s cap, sl = some ⟨c, o, none⟩ ∧ c < w.heap.size ∧ w.cell? ⟨c, o + k, none⟩ = some (.slice s css[k].length cap) ∧ Ints w s css[k] ∧ css[k].length ≤ maxLen
theorem Cls.rowC {w : World} {sl : Option Addr} {cs : List LCl} (h : Cls w sl cs) : RowC w (bareC cs) sl := by
  intro k hk
  have hk' : k < cs.length := by simpa [bareC] using hk
  obtain ⟨c, o, e, ca⟩ := h.at hk'
  obtain ⟨s, cap, e2, ii, hm⟩ := h.each cs[k] (List.getElem_mem hk')
  have eb : (bareC cs)[k] = cs[k].2 := by simp [bareC]
  exact ⟨c, o, s, cap, e, ca.1, by rw [ca.2 k hk', e2, eb], by rw [eb]; exact ii, by rw [eb]; exact hm⟩

set_option maxRecDepth 100000 in
set_option maxHeartbeats 2000000 in
/-- spec.LemmasText. -/
theorem slt_any (sl : Option Addr) (cap : Nat) (cs : List LCl) (w : World) (hn : cs.length ≤ 1048576) (hz : Cls w sl cs) :
    Calls Tryd.prog 11 #[.slice sl cs.length cap] w fun e w' => e = .returned (.string ⟨(lemT (bareC cs)).toArray⟩) ∧ Below w.heap.size w w' := by
  obtain ⟨i0, hi, hz0, hz1, hz2⟩ := info_parts infoU8
  have HR := Lib.hid hz.rowC
  have HN := Lib.hid (show (bareC cs).length = cs.length by simp [bareC])
  clear hz
  generalize bareC cs = css at *
  generalize cs.length = n at *
  clear cs
  by_cases h4 : 400 < n
  · have h4' : (400 : Int) < (n : Int) := by omega
    rw [lemT_long (by rw [HN.out]; exact h4)]
    clear HR HN
    go_enter Tryd.func11, Tryd.ntmps11
    go_wp2
    go_ret
    exact ⟨rfl, bA0 _ _⟩
  have h4' : ¬ (400 : Int) < (n : Int) := by omega
  have O0 := Lib.hid (own_e5 w)
  have B0 := Lib.hid (bA0 w (.cells #[] 5))
  go_enter Tryd.func11, Tryd.ntmps11
  go_wp2
  generalize w.alloc (.cells #[] 5) = w0 at *
  go_loopw [3, 4] (fun v i wr => ∃ (k : Nat) (l : List UInt8), i = .int .i64 k ∧ k ≤ n ∧ l.length ≤ 2200 * k ∧ Hid (v ≠ .slice none 0 0) ∧ Hid (l = allB (css.take k)) ∧ Hid ((css.take k).all lemB = true) ∧ Hid (wr.ownsRow w.heap.size 5 1 v l.length (Lib.byteCells l)) ∧ Hid (Below w.heap.size w wr)) (fun _ i _ => n - (intOf i).toNat)
  case atStart => exact ⟨0, [], rfl, Nat.zero_le _, Nat.zero_le _, (fun e => by cases e), rfl, rfl, O0, B0⟩
  case round =>
    obtain ⟨k, l, rfl, hk, hll, HV, HL, HA, OR, HB⟩ := hrel
    have hk0 : (0 : Int) ≤ (k : Int) := by omega
    obtain ⟨vsl, vcap, rfl⟩ := own_v OR.out
    by_cases g1 : k < n
    · have g1' : (k : Int) < (n : Int) := by omega
      have hlt : k < css.length := by rw [HN.out]; exact g1
      obtain ⟨c, o, s, scap, rfl, hcl, hcc, hii, hmm⟩ := HR.out k hlt
      have hc := (HB.out.cell (p := ⟨c, o + k, none⟩) hcl).trans hcc
      have E1 := Lib.hid (slem_any s scap css[k] wr hmm (hii.below HB.out))
      have E2 : Hid (lemB css[k] = true → Calls Tryd.prog 43 #[.slice s css[k].length scap] wr fun e w' => e = .returned (.string ⟨(lineB css[k]).toArray⟩) ∧ Below wr.heap.size wr w') := fun hb => line_any s scap css[k] wr (lemB_len hb) (lemB_small hb) (hii.below HB.out)
      have S1 := Lib.hid (allB_step css k hlt)
      have S2 := Lib.hid (allL_step css k hlt)
      have S3 := Lib.hid (allL_no css k hlt)
      have S4 := Lib.hid (fun (hx : lemB css[k] = true) => lineB_le hx)
      clear hcc hii hmm
      generalize css[k] = zs at *
      clear hlt
      generalize zs.length = m at *
      cases hb : lemB zs with
      | true =>
        rw [hb] at E1 S2
        have E3 := Lib.hid (E2.out hb)
        have hln := S4.out hb
        clear E2 S3 S4 hb
        generalize lineB zs = d at *
        have hds : (⟨d.toArray⟩ : ByteArray).size = d.length := by simp [ByteArray.size]
        have hwb := HB.out.size
        go_wp2_with (first | (go_at_call 42; refine E1.out.mono ?_; rintro e w1 ⟨rfl, rfl⟩) | (go_at_call 43; refine E3.out.mono ?_; rintro e w2 ⟨rfl, b2⟩; have O2 := own_below OR.out b2; have hs2 := b2.size) | (at_builtin; refine Lib.wpList_append_own_string _ rfl _ _ 22 9 rfl w.heap.size 5 i0 Tryd.underlying22 Tryd.underlying9 hi hz0 hz1 hz2 _ _ _ rfl O2 ⟨d.toArray⟩ rfl (by rw [hds]; unfold maxLen; omega) (by rw [hds]; omega) (by omega) ?_))
        intro v9 w9 own9 grow9 iff9
        have NL : Hid (l ++ d = allB (css.take (k + 1))) := by rw [HL.out]; exact Lib.hid S1.out.symm
        have NA : Hid ((css.take (k + 1)).all lemB = true) := by rw [S2.out, HA.out]; exact Lib.hid rfl
        have NV : Hid (v9 ≠ .slice none 0 0) := fun e => HV.out (by obtain ⟨e1, e2, e3⟩ := (iff9.1 e).1; rw [e1, e2, e3]; rfl)
        have N9 : Hid (w9.ownsRow w.heap.size 5 1 v9 (l ++ d).length (Lib.byteCells (l ++ d))) := by
          rw [List.length_append, Lib.byteCells_append]
          exact Lib.hid own9
        have B9 := Lib.hid ((bT HB.out b2).grown grow9 (by omega) (fun j hj => (O2.lt j hj).1))
        obtain ⟨nsl, ncap, rfl⟩ := own_v N9.out
        have hl9 : (l ++ d).length ≤ 2200 * (k + 1) := by rw [List.length_append]; omega
        clear own9 grow9 iff9 O2 OR HV HL HA HB S1 S2 b2 hds
        go_wp2
        go_roundw
        case rel => exact ⟨k + 1, l ++ d, by go_num, by omega, hl9, NV, NL, NA, N9, B9⟩
        case measure => simp [intOf]; omega
      | false =>
        rw [hb] at E1
        have LT : Hid (lemT css = []) := lemT_bad (S3.out hb)
        clear E2 S1 S2 S3 S4 hb
        go_wp2_with (go_at_call 42; refine E1.out.mono ?_; rintro e w1 ⟨rfl, rfl⟩)
        go_ret
        exact ⟨by rw [LT.out]; rfl, HB.out⟩
    · have g1' : ¬ (k : Int) < (n : Int) := by omega
      have ek : css.take k = css := List.take_of_length_le (by rw [HN.out]; omega)
      have LG : Hid (lemT css = if l.length ≤ 20000 then l else []) := by
        have h1 := HL.out
        have h2 := HA.out
        rw [ek] at h1 h2
        rw [h1]
        exact lemT_good (by rw [HN.out]; omega) h2
      obtain ⟨g, hg, hgc⟩ : ∃ g, vsl = some ⟨g, 0, none⟩ ∧ ∀ j (hj : j < l.length), wr.cell? ⟨g, j, none⟩ = some (.int .u8 (l[j].toNat : Int)) := by
        rcases OR.out.2 with ⟨hv, _⟩ | ⟨g, cp, cur, hv, hb, hg, _⟩
        · exact absurd hv HV.out
        · cases hv
          refine ⟨g, rfl, fun j hj => ?_⟩
          rw [OR.out.cellAt j (by omega)]
          simp [Lib.byteCells, hj]
      subst hg
      have hcv := conv_row wr l g vcap hgc
      clear ek HL HA OR HV hgc
      by_cases g2 : l.length ≤ 20000
      · have g2' : ¬ (20000 : Int) < (l.length : Int) := by omega
        have LT := Lib.hid (show lemT css = l by rw [LG.out, if_pos g2])
        clear LG
        go_wp2
        go_ret
        exact ⟨by rw [LT.out]; rfl, HB.out⟩
      · have g2' : (20000 : Int) < (l.length : Int) := by omega
        have LT := Lib.hid (show lemT css = [] by rw [LG.out, if_neg g2])
        clear LG hcv
        go_wp2
        go_ret
        exact ⟨by rw [LT.out]; rfl, HB.out⟩
end Go.Proofs.YtoncpiaboceefaaDoor
