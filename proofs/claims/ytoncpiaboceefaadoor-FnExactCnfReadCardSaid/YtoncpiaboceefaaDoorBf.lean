/-
  IS THERE A LIST THAT MAY NOT BE TOLD AS A LEMMA? impl.LemmasText's own function, slices.IndexFunc and ContainsFunc over it.
-/
import Derived.Test.YtoncpiaboceefaaDoorBe
import Derived.Test.YtoncpiaboceefaaDoorBd
import Derived.Test.YtoncpiaboceefaaDoorAf
namespace Go.Proofs.YtoncpiaboceefaaDoor
open Go.RowKit
set_option linter.unusedVariables false

theorem wfI_bd {z : Int} (h : wfI z) : -9223372036854775808 ≤ z ∧ z ≤ 9223372036854775807 := by
  unfold wfI at h
  have e1 : IntKind.i64.min = -9223372036854775808 := by rfl
  have e2 : IntKind.i64.max = 9223372036854775807 := by rfl
  simp [Lit.wf, e1, e2] at h
  omega
theorem lem_good {zs : List Int} (h : ∀ z ∈ zs, wfI z) (hl : zs.length ≤ 96) : lemB zs = B (GoodL zs) := by
  have e : (zs.all (inB (-96) 96) && !(B ((0 : Int) ∈ zs))) = B (GoodL zs) := by
    by_cases g : GoodL zs
    · rw [B_yes g]
      have h1 : zs.all (inB (-96) 96) = true := List.all_eq_true.2 fun z hz => by
        have := ((lv_one (wfI_bd (h z hz)).1 (wfI_bd (h z hz)).2).1 (g z hz)).1
        simpa [inB] using this
      have h2 : ¬ (0 : Int) ∈ zs := fun hz => ((lv_one (wfI_bd (h 0 hz)).1 (wfI_bd (h 0 hz)).2).1 (g 0 hz)).2 rfl
      rw [h1, B_no h2]; rfl
    · rw [B_no g]
      cases h1 : zs.all (inB (-96) 96) with
      | false => rfl
      | true =>
        by_cases h2 : (0 : Int) ∈ zs
        · rw [B_yes h2]; rfl
        · exfalso
          refine g fun z hz => (lv_one (wfI_bd (h z hz)).1 (wfI_bd (h z hz)).2).2 ⟨?_, fun e => h2 (e ▸ hz)⟩
          have := List.all_eq_true.1 h1 z hz
          simpa [inB] using this
  unfold lemB
  rw [decide_eq_true hl, Bool.true_and, e]
/-- impl.lemmaTold. -/
theorem told_any (sl : Option Addr) (cap : Nat) (zs : List Int) (w : World) (hw : ∀ z ∈ zs, wfI z) (hz : Ints w sl zs) :
    Calls Tryd.prog 45 #[.slice sl zs.length cap] w fun e w' => e = .returned (.bool (lemB zs)) ∧ Below w.heap.size w w' := by
  by_cases h : zs.length ≤ 96
  · rw [lem_good hw h]
    exact told_short sl cap zs w h hz
  · rw [show lemB zs = false by unfold lemB; rw [decide_eq_false h]; rfl]
    exact told_long sl _ cap w (by omega)
set_option maxHeartbeats 400000 in
theorem wrong_one (sl : Option Addr) (cap : Nat) (zs : List Int) (w : World) (hw : ∀ z ∈ zs, wfI z) (hz : Ints w sl zs) :
    Calls Tryd.prog 44 #[.slice sl zs.length cap] w fun e w' => e = .returned (.bool (!(lemB zs))) ∧ Below w.heap.size w w' := by
  have E := Lib.hid (told_any sl cap zs w hw hz)
  clear hz
  generalize lemB zs = b at *
  generalize zs.length = n at *
  go_enter Tryd.func44, Tryd.ntmps44
  go_wp2_with fail
  refine E.out.mono ?_
  rintro e w1 ⟨rfl, b1⟩
  have B1 := Lib.hid b1
  clear b1 E
  go_wp2
  go_ret
  exact ⟨rfl, B1.out⟩
/-- All numbers of 64 bits. -/
def WfL (css : List (List Int)) : Prop := ∀ zs ∈ css, ∀ z ∈ zs, wfI z
abbrev WF : Value := .func (.func 44) #[] #[]
set_option maxRecDepth 100000 in
set_option maxHeartbeats 1000000 in
/-- slices.IndexFunc. -/
theorem ixf_any (sl : Option Addr) (cap : Nat) (css : List (List Int)) (w : World) (hn : css.length ≤ 1048576) (hw : WfL css) (hz : RowC w css sl) :
    Calls Tryd.prog 92 #[.slice sl css.length cap, WF] w fun e w' => ∃ r : Int, e = .returned (.int .i64 r) ∧ (css.all lemB = decide (r < 0)) ∧ Below w.heap.size w w' := by
  have HR := Lib.hid hz
  have HW := Lib.hid hw
  clear hz hw
  generalize hN : css.length = n at *
  have HN := Lib.hid hN
  clear hN
  go_enter Tryd.func92, Tryd.ntmps92
  go_wp2
  go_loopw [8] (fun i wr => ∃ (k : Nat), i = .int .i64 k ∧ k ≤ n ∧ Hid ((css.take k).all lemB = true) ∧ Hid (Below w.heap.size w wr)) (fun i _ => n - (intOf i).toNat)
  case atStart => exact ⟨0, rfl, Nat.zero_le _, rfl, Below.refl _ _⟩
  case round =>
    obtain ⟨k, rfl, hk, HA, HB⟩ := hrel
    have hk0 : (0 : Int) ≤ (k : Int) := by omega
    by_cases g1 : k < n
    · have g1' : (k : Int) < (n : Int) := by omega
      have hlt : k < css.length := by rw [HN.out]; exact g1
      obtain ⟨c, o, s, scap, rfl, hcl, hcc, hii, hmm⟩ := HR.out k hlt
      have hc := (HB.out.cell (p := ⟨c, o + k, none⟩) hcl).trans hcc
      have E1 := Lib.hid (wrong_one s scap css[k] wr (HW.out css[k] (List.getElem_mem hlt)) (hii.below HB.out))
      have S2 := Lib.hid (allL_step css k hlt)
      have S3 := Lib.hid (allL_no css k hlt)
      clear hcc hii hmm
      generalize css[k] = zs at *
      clear hlt
      generalize zs.length = m at *
      cases hb : lemB zs with
      | true =>
        rw [hb] at E1 S2
        have NA : Hid ((css.take (k + 1)).all lemB = true) := by rw [S2.out, HA.out]; exact Lib.hid rfl
        clear S2 S3 hb HA
        go_wp2_with (go_at_call 44; refine E1.out.mono ?_; rintro e w1 ⟨rfl, b1⟩; have B1 := Lib.hid (bT HB.out b1))
        go_roundw
        case rel => exact ⟨k + 1, by go_num, by omega, NA, B1⟩
        case measure => simp [intOf]; omega
      | false =>
        rw [hb] at E1
        have NA := Lib.hid (S3.out hb)
        clear S2 S3 hb HA
        go_wp2_with (go_at_call 44; refine E1.out.mono ?_; rintro e w1 ⟨rfl, b1⟩; have B1 := Lib.hid (bT HB.out b1))
        go_ret
        exact ⟨(k : Int), rfl, by rw [NA.out]; simp, B1.out⟩
    · have g1' : ¬ (k : Int) < (n : Int) := by omega
      have NA : Hid (css.all lemB = true) := by
        have := HA.out
        rwa [List.take_of_length_le (by rw [HN.out]; omega)] at this
      clear HA
      go_wp2
      go_ret
      exact ⟨-1, rfl, by rw [NA.out]; rfl, HB.out⟩
set_option maxHeartbeats 400000 in
/-- slices.ContainsFunc. -/
theorem cof_any (sl : Option Addr) (cap : Nat) (css : List (List Int)) (w : World) (hn : css.length ≤ 1048576) (hw : WfL css) (hz : RowC w css sl) :
    Calls Tryd.prog 46 #[.slice sl css.length cap, WF] w fun e w' => e = .returned (.bool (!(css.all lemB))) ∧ Below w.heap.size w w' := by
  have E := Lib.hid (ixf_any sl cap css w hn hw hz)
  clear hz hw
  generalize css.all lemB = b at *
  generalize css.length = n at *
  go_enter Tryd.func46, Tryd.ntmps46
  go_wp2_with fail
  refine E.out.mono ?_
  rintro e w1 ⟨r, rfl, hr, b1⟩
  have B1 := Lib.hid b1
  have HR := Lib.hid hr
  clear b1 hr E
  by_cases h0 : r < 0
  · have h0' : ¬ (0 : Int) ≤ r := by omega
    have R := Lib.hid (show b = true by rw [HR.out]; simpa using h0)
    clear HR
    go_wp2
    go_ret
    exact ⟨by rw [R.out]; simp; omega, B1.out⟩
  · have h0' : (0 : Int) ≤ r := by omega
    have R := Lib.hid (show b = false by rw [HR.out]; simpa using h0)
    clear HR
    go_wp2
    go_ret
    exact ⟨by rw [R.out]; simp, B1.out⟩
end Go.Proofs.YtoncpiaboceefaaDoor
