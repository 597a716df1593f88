/-
  THE VALUE OF A LITERAL: spec.l01Has, both LitValue, the law's walk.
-/
import Derived.Test.YtdmnnclbcljdmaaQf
namespace Go.Proofs.Ytdmnnclbcljdmaa
open Go.RowKit
set_option linter.unusedVariables false

set_option maxHeartbeats 1000000 in
/-- spec.l01Has. -/
theorem lhas_any (sl : Option Addr) (cap : Nat) (zs : List Int) (x : Int) (w : World) (hn : zs.length ≤ maxLen) (hz : Ints w sl zs) :
    Calls Try.prog 28 #[.slice sl zs.length cap, .int .i64 x] w fun e w' => e = .returned (.bool (B (x ∈ zs))) ∧ w' = w := by
  unfold maxLen at hn
  have HZ := Lib.hid hz
  clear hz
  generalize hR : B (x ∈ zs) = r
  have HR := Lib.hid hR
  clear hR
  generalize hN : zs.length = n at *
  have HN := Lib.hid hN
  clear hN
  go_enter Try.func28, Try.ntmps28
  go_wp2
  go_loopw [5] (fun i wr => ∃ k : Nat, i = .int .i64 k ∧ k ≤ n ∧ Hid (NotIn zs x k) ∧ wr = w) (fun i _ => n - (intOf i).toNat)
  case atStart => exact ⟨0, rfl, Nat.zero_le _, fun i h => absurd h (Nat.not_lt_zero _), rfl⟩
  case round =>
    obtain ⟨k, rfl, hk, NI, rfl⟩ := hrel
    have hk0 : (0 : Int) ≤ (k : Int) := by omega
    by_cases h1 : k < n
    · have h1' : (k : Int) < (n : Int) := by omega
      have hlt : k < zs.length := by rw [HN.out]; exact h1
      obtain ⟨c, o, rfl, ZI⟩ : ∃ c o, sl = some ⟨c, o, none⟩ ∧ IntsAt wr c o zs := by
        rcases HZ.out with e | h
        · rw [e] at hlt; simp at hlt
        · exact h
      have hc := ZI.2 k hlt
      by_cases hx : zs.getD k 0 = x
      · have R := Lib.hid (show r = true by rw [← HR.out]; exact B_yes (by rw [← hx]; simp [hlt]))
        have hx' : (zs.getD k 0 == x) = true := beq_iff_eq.2 hx
        generalize zs.getD k 0 = z at *
        clear hlt ZI hx
        go_wp2
        go_ret
        exact ⟨by rw [R.out]; rfl, rfl⟩
      · have hx' : (zs.getD k 0 == x) = false := beq_eq_false_iff_ne.2 hx
        have NI2 := Lib.hid (show NotIn zs x (k + 1) from fun i hi => by
          by_cases e : i = k
          · subst e; exact hx
          · exact NI.out i (by omega))
        generalize zs.getD k 0 = z at *
        clear hlt ZI hx NI
        go_wp2
        go_roundw
        case rel => exact ⟨k + 1, by go_num, by omega, NI2, trivial⟩
        case measure => simp [intOf]; omega
    · have h1' : ¬ (k : Int) < (n : Int) := by omega
      have R := Lib.hid (show r = false by
        rw [← HR.out]
        refine B_no (notIn_mem ?_)
        have := NI.out
        rwa [show k = zs.length by rw [HN.out]; omega] at this)
      clear NI
      go_wp2
      go_ret
      exact ⟨by rw [R.out]; rfl, rfl⟩

/-- What a literal is by a trail. -/
noncomputable def lvL (zs : List Int) (x : Int) : Int := @ite _ (x ∈ zs) (Classical.propDecidable _) 1 (@ite _ (wrap64 (-x) ∈ zs) (Classical.propDecidable _) (-1) 0)
noncomputable def litF (zs : List Int) (x : Int) : Int := if zs.length ≤ 400 then lvL zs x else 0
theorem lvL_yes {zs : List Int} {x : Int} (h : x ∈ zs) : lvL zs x = 1 := by unfold lvL; rw [if_pos h]
theorem lvL_neg {zs : List Int} {x : Int} (h : x ∉ zs) (h2 : wrap64 (-x) ∈ zs) : lvL zs x = -1 := by unfold lvL; rw [if_neg h, if_pos h2]
theorem lvL_no {zs : List Int} {x : Int} (h : x ∉ zs) (h2 : wrap64 (-x) ∉ zs) : lvL zs x = 0 := by unfold lvL; rw [if_neg h, if_neg h2]
theorem litF_long {zs : List Int} {x : Int} (h : 400 < zs.length) : litF zs x = 0 := by unfold litF; rw [if_neg (by omega)]
theorem litF_short {zs : List Int} {x : Int} (h : zs.length ≤ 400) : litF zs x = lvL zs x := by unfold litF; rw [if_pos h]


theorem wf_lo {a : Int} (h : wfI a) : -9223372036854775808 ≤ a ∧ a ≤ 9223372036854775807 := by
  unfold wfI at h
  have e1 : IntKind.i64.min = -9223372036854775808 := by rfl
  have e2 : IntKind.i64.max = 9223372036854775807 := by rfl
  simpa [Lit.wf, e1, e2] using h
/-- None of the first k, turned round, is x. -/
def NoNeg (zs : List Int) (x : Int) (k : Nat) : Prop := ∀ i, i < k → zs.getD i 0 ≠ -9223372036854775808 → -zs.getD i 0 ≠ x
theorem noNeg_end {zs : List Int} {x : Int} (hx : wfI x) (h1 : x ∉ zs) (h : NoNeg zs x zs.length) : lvL zs x = 0 := by
  refine lvL_no h1 (fun hm => ?_)
  have := wf_lo hx
  obtain ⟨i, hi, e⟩ := List.getElem_of_mem hm
  by_cases hmin : x = -9223372036854775808
  · refine h1 ?_
    rwa [hmin, show wrap64 (- -9223372036854775808) = -9223372036854775808 by unfold wrap64; omega, ← hmin] at hm
  · have hw : wrap64 (-x) = -x := wrap_in _ ⟨by omega, by omega⟩
    have := h i hi (by simp [hi]; omega)
    simp [hi] at this
    omega
theorem neg_found {zs : List Int} {x : Int} (hx : wfI x) (h1 : x ∉ zs) (i : Nat) (hi : i < zs.length) (e : -zs.getD i 0 = x) (he : zs.getD i 0 ≠ -9223372036854775808) (hw : wfI (zs.getD i 0)) : lvL zs x = -1 := by
  refine lvL_neg h1 ?_
  have := wf_lo hw
  rw [wrap_in _ ⟨by omega, by omega⟩, ← e]
  have : zs.getD i 0 ∈ zs := by simp [hi]
  simpa using this



end Go.Proofs.Ytdmnnclbcljdmaa
