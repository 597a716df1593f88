/-
  THE LAW FnExactDiskWrite at every disk and every text.
-/
import Derived.Test.YtaongccmipjgeaaW6
import Derived.Test.YtaongccmipjgeaaCh
namespace Go.Proofs.Ytaongccmipjgeaa
open Go.RowKit
set_option linter.unusedVariables false

theorem law6_text (s : ByteArray) (sl : Option Addr) (n cap : Nat) (tx : ByteArray) (w : World) (ht : 1048576 < tx.size) :
    Calls Try.prog 6 #[DV s sl n cap, .string tx] w fun e w' => e = .returned (.bool true) ∧ Below w.heap.size w w' := by
  have ht' : (1048576 : Int) < (tx.size : Int) := by omega
  go_enter Try.func6, Try.ntmps6
  go_wp2
  go_ret
  exact ⟨rfl, bA0 _ _⟩

theorem law6_all (s : ByteArray) (sl : Option Addr) (cap : Nat) (ss : List ByteArray) (tx : ByteArray) (w : World) (hz : Strs w sl ss) (hs : ∀ s ∈ ss, s.size ≤ maxLen) (hs0 : s.size ≤ maxLen) (hn : ss.length ≤ maxLen) :
    Calls Try.prog 6 #[DV s sl ss.length cap, .string tx] w fun e w' => e = .returned (.bool true) ∧ Below w.heap.size w w' := by
  by_cases htx : tx.size ≤ 1048576
  · rcases szD_or 1048576 s ss with h | ⟨h, e⟩
    · exact law6_long s sl cap ss tx w hz hs hs0 hn htx h
    · have hl : ss.length ≤ 1048576 := by omega
      have hS : s.size + tot ss + tx.size ≤ 4000000 := by omega
      by_cases h2 : tx.size ≤ 20000
      · have hrl : (if dR s (ss ++ [tx]) then ss ++ [tx] else ss).length ≤ 1048577 := by
          cases dR s (ss ++ [tx])
          · simp; omega
          · simp; omega
        exact law6_of s sl cap ss tx w hz hs hs0 hn h htx _ _ hrl (fun w1 a c h1 => swrite_any tx s a c ss w1 h2 hl h1) (fun w1 a c h1 => iwrite_any tx s a c ss w1 h2 hS hl h1)
      · exact law6_of s sl cap ss tx w hz hs hs0 hn h htx ⟨#[]⟩ [] (by simp) (fun w1 a c h1 => swrite_big tx s a _ c w1 (by omega)) (fun w1 a c h1 => iwrite_big tx s a _ c w1 (by omega))
  · exact law6_text s sl _ cap tx w (by omega)

end Go.Proofs.Ytaongccmipjgeaa
