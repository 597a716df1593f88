/-
  THE LAW FnExactDiskSync at every disk.
-/
import Derived.Test.YtaongccmipjgeaaW7
import Derived.Test.YtaongccmipjgeaaCd
namespace Go.Proofs.Ytaongccmipjgeaa
open Go.RowKit
set_option linter.unusedVariables false

theorem law7_all (s : ByteArray) (sl : Option Addr) (cap : Nat) (ss : List ByteArray) (w : World) (hz : Strs w sl ss) (hs : ∀ s ∈ ss, s.size ≤ maxLen) (hs0 : s.size ≤ maxLen) (hn : ss.length ≤ maxLen) :
    Calls Try.prog 7 #[DV s sl ss.length cap] w fun e w' => e = .returned (.bool true) ∧ Below w.heap.size w w' := by
  rcases szD_or 1048576 s ss with h | ⟨h, e⟩
  · exact law7_long s sl cap ss w hz hs hs0 hn h
  · have hl : ss.length ≤ 1048576 := by omega
    have hS : s.size + tot ss ≤ 4000000 := by omega
    have hrl : (if dR s ss then [] else ss).length ≤ 1048577 := by
      cases dR s ss
      · simp; omega
      · simp
    exact law7_of s sl cap ss w hz hs hs0 hn h _ _ hrl (fun w1 a c h1 => ssync_any s a c ss w1 (by omega) h1) (fun w1 a c h1 => isync_any s a c ss w1 hS (by omega) h1)

end Go.Proofs.Ytaongccmipjgeaa
