/-
  THE LAW FnExactDiskCut at every disk and every size.
-/
import Derived.Test.YtaongccmipjgeaaW9
namespace Go.Proofs.Ytaongccmipjgeaa
open Go.RowKit
set_option linter.unusedVariables false

theorem dT_size {s : ByteArray} {ss : List ByteArray} (h : dR s ss = true) : (dT s ss).size = s.size + tot ss := by
  unfold dT
  rw [if_pos h, ByteArray.size_append, flT_size]

theorem law9_all (s : ByteArray) (sl : Option Addr) (cap : Nat) (ss : List ByteArray) (z : Int) (w : World) (hz : Strs w sl ss) (hs : ∀ s ∈ ss, s.size ≤ maxLen) (hs0 : s.size ≤ maxLen) (hn : ss.length ≤ maxLen) :
    Calls Try.prog 9 #[DV s sl ss.length cap, .int .i64 z] w fun e w' => e = .returned (.bool true) ∧ Below w.heap.size w w' := by
  rcases szD_or 1048576 s ss with h | ⟨h, e⟩
  · exact law9_long s sl cap ss z w hz hs hs0 hn h
  · have hl : ss.length ≤ 1048576 := by omega
    have hS : s.size + tot ss ≤ 4000000 := by omega
    by_cases hc : dR s ss = true ∧ 0 ≤ z ∧ z ≤ ((dT s ss).size : Int)
    · obtain ⟨hr, z0, z1⟩ := hc
      obtain ⟨k, rfl⟩ := Int.eq_ofNat_of_zero_le z0
      have hT : (dT s ss).size ≤ 20000 := by rw [dT_size hr]; exact (dR_parts hr).2.2
      exact law9_of s sl cap ss k w hz hs hs0 hn h _ [] (by simp) (fun w1 a c h1 => scut_yes s a c ss k w1 h1 hr (by omega) hT) (fun w1 a c h1 => icut_yes s a c ss k w1 hS h1 hr (by omega) hT)
    · have hc' : dR s ss = false ∨ z < 0 ∨ ((dT s ss).size : Int) < z := by
        cases hr : dR s ss
        · exact .inl rfl
        · right
          by_cases z0 : z < 0
          · exact .inl z0
          · right
            have : ¬ z ≤ ((dT s ss).size : Int) := fun z1 => hc ⟨hr, by omega, z1⟩
            omega
      exact law9_of s sl cap ss z w hz hs hs0 hn h s ss (by omega) (fun w1 a c h1 => scut_no s a c ss z w1 (by omega) h1 hc') (fun w1 a c h1 => icut_no s a c ss z w1 hS (by omega) h1 hc')

end Go.Proofs.Ytaongccmipjgeaa
