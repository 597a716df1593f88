/-
  THE LAW FnExactDiskCrash at every disk and every number of bytes kept.
-/
import Derived.Test.YtaongccmipjgeaaW8
import Derived.Test.YtaongccmipjgeaaCc
namespace Go.Proofs.Ytaongccmipjgeaa
open Go.RowKit
set_option linter.unusedVariables false

theorem law8_all (s : ByteArray) (sl : Option Addr) (cap : Nat) (ss : List ByteArray) (z : Int) (w : World) (hz : Strs w sl ss) (hs : ∀ s ∈ ss, s.size ≤ maxLen) (hs0 : s.size ≤ maxLen) (hn : ss.length ≤ maxLen) :
    Calls Try.prog 8 #[DV s sl ss.length cap, .int .i64 z] w fun e w' => e = .returned (.bool true) ∧ Below w.heap.size w w' := by
  rcases szD_or 1048576 s ss with h | ⟨h, e⟩
  · exact law8_long s sl cap ss z w hz hs hs0 hn h
  · have hl : ss.length ≤ 1048576 := by omega
    have hS : s.size + tot ss ≤ 4000000 := by omega
    cases hr : dR s ss
    · exact law8_of s sl cap ss z w hz hs hs0 hn h s ss (by omega) (fun w1 a c h1 => scrash_no s a c ss z w1 (by omega) h1 hr) (fun w1 a c h1 => icrash_no s a c ss z w1 hS (by omega) h1 hr)
    · exact law8_of s sl cap ss z w hz hs hs0 hn h _ [] (by simp) (fun w1 a c h1 => scrash_yes s a c ss z w1 h1 hr) (fun w1 a c h1 => icrash_yes s a c ss z w1 h1 hr)

end Go.Proofs.Ytaongccmipjgeaa
