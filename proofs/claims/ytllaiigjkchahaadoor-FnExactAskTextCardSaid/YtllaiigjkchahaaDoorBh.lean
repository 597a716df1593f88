/-
  LEMMAS AS TEXT, AS THE PROGRAM TELLS THEM: impl.LemmasText.
-/
import Derived.Test.YtllaiigjkchahaaDoorBf
import Derived.Test.YtllaiigjkchahaaDoorBg
namespace Go.Proofs.YtllaiigjkchahaaDoor
open Go.RowKit
set_option linter.unusedVariables false

theorem RowC.below {w w' : World} {css : List (List Int)} {sl : Option Addr} (h : RowC w css sl) (hb : Below w.heap.size w w') : RowC w' css sl := fun k hk => by
  obtain ⟨c, o, s, cap, e, h1, h2, h3, h4⟩ := h k hk
  exact ⟨c, o, s, cap, e, Nat.lt_of_lt_of_le h1 hb.size, (hb.cell h1).trans h2, h3.below hb, h4⟩
set_option maxRecDepth 100000 in
set_option maxHeartbeats 1000000 in
/-- impl.LemmasText. -/
theorem ilt_any (sl : Option Addr) (cap : Nat) (css : List (List Int)) (w : World) (hn : css.length ≤ 1048576) (hw : WfL css) (hz : RowC w css sl) (ht : PowTab w) :
    Calls Tryd.prog 25 #[.slice sl css.length cap] w fun e w' => e = .returned (.string ⟨(lemT css).toArray⟩) ∧ Below w.heap.size w w' := by
  by_cases h4 : 400 < css.length
  · have h4' : (400 : Int) < (css.length : Int) := by omega
    rw [lemT_long h4]
    clear hz hw ht
    generalize css.length = n at *
    go_enter Tryd.func25, Tryd.ntmps25
    go_wp2
    go_ret
    exact ⟨rfl, Below.refl _ _⟩
  have h4' : ¬ (400 : Int) < (css.length : Int) := by omega
  have E1 := Lib.hid (cof_any sl cap css w hn hw hz)
  cases hb : css.all lemB with
  | false =>
    rw [lemT_bad hb]
    rw [hb] at E1
    clear hz hw ht hb
    generalize css.length = n at *
    go_enter Tryd.func25, Tryd.ntmps25
    go_wp2_with (go_at_call 37; refine E1.out.mono ?_; rintro e w1 ⟨rfl, b1⟩; have B1 := Lib.hid b1)
    go_ret
    exact ⟨rfl, B1.out⟩
  | true =>
    have LO : LinesOk css := ⟨by omega, fun zs hzs => by
      have := List.all_eq_true.1 hb zs hzs
      exact ⟨lemB_len this, lemB_small this⟩⟩
    have LT : (if ([] ++ allB css).length ≤ 20000 then [] ++ allB css else []) = lemT css := by
      rw [lemT_good (by omega) hb, List.nil_append]
    have E2 : Hid (∀ W, Below w.heap.size w W → Calls Tryd.prog 38 #[.string ⟨#[]⟩, .slice sl css.length cap] W fun e w' => e = .returned (.string ⟨(lemT css).toArray⟩) ∧ Below W.heap.size W w') := fun W hW => by
      have := ct_any [] sl cap css W (by simp) LO (hz.below hW) (ht.below hW)
      rw [LT] at this
      exact this
    rw [hb] at E1
    clear hz hw ht hb LO LT
    generalize lemT css = t at *
    generalize css.length = n at *
    go_enter Tryd.func25, Tryd.ntmps25
    go_wp2_with (first | (go_at_call 37; refine E1.out.mono ?_; rintro e w1 ⟨rfl, b1⟩) | (go_at_call 38; refine (E2.out _ b1).mono ?_; rintro e w2 ⟨rfl, b2⟩; have B2 := Lib.hid (bT b1 b2)))
    go_ret
    exact ⟨rfl, B2.out⟩
end Go.Proofs.YtllaiigjkchahaaDoor
