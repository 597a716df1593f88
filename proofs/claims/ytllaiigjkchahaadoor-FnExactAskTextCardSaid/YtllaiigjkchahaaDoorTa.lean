/-
  A TABLE OF THE LAWS, OPENED: what an argument that reads as one is.
-/
import Derived.Test.YtllaiigjkchahaaDoorAp
import Derived.ChangeSame
import Derived.ChangeSlices
import Derived.ChangeArms
import Derived.Deep.Strs
import Derived.Deep.Slices
namespace Go.Proofs.YtllaiigjkchahaaDoor
open Go.RowKit Go.ChangeShapes Go.WideShapes
set_option linter.unusedVariables false

theorem add_at (c o i : Nat) : (⟨c, o, none⟩ : Addr).add i = ⟨c, o + i, none⟩ := by
  unfold Addr.add
  by_cases h : i = 0 <;> simp [h]
theorem addr_none {w : World} {x : Addr} {v : Value} (h : w.cell? (x.add 0) = some v) : ∃ c o, x = ⟨c, o, none⟩ ∧ c < w.heap.size := by
  obtain ⟨c, o, spot⟩ := x
  have hs' : spot = none := by simpa [Addr.add] using World.cell?_spot h
  subst hs'
  rw [add_at] at h
  refine ⟨c, o, rfl, ?_⟩
  unfold World.cell? at h
  cases e : w.heap[c]? with
  | none => simp [e] at h
  | some ob => exact (Array.getElem?_eq_some_iff.1 e).1
theorem cells2' : Tryd.prog.cellsOf 2 = 1 := by kernel_rfl
theorem cells29 : Tryd.prog.cellsOf 62 = 1 := by kernel_rfl

section
variable {H : Type} {enc : TypeId × Value → H} {W : World} {base : Nat} {sp : Nat → Bool} {held : Bool}

theorem open_dom {fuel : Nat} {cs : List Value} {x : DataW H × List MemPlace} (h : DataW.trod enc Tryd.prog W base sp held fuel 62 cs = some x) :
    ∃ sl cap zs, cs = [.slice sl (List.length zs) cap] ∧ Ints W sl zs ∧ zs.length ≤ maxLen := by
  rcases open_ints Tryd.underlying62 Tryd.underlying2 cells2' h with ⟨rfl, _⟩ | ⟨a, len, cap, zs, rfl, _, hl, hm, hz, _, hc, _⟩
  · exact ⟨none, 0, [], rfl, .inl rfl, Nat.zero_le _⟩
  · have hlz : len ≤ zs.length := by rw [hz]; split <;> omega
    have hlen : (zs.take len).length = len := by rw [List.length_take]; omega
    refine ⟨some a, cap, zs.take len, by rw [hlen], ?_, by rw [hlen]; omega⟩
    by_cases h0 : len = 0
    · subst h0; exact .inl (by simp)
    · obtain ⟨c, o, rfl, hcl⟩ := addr_none (hc 0 (by omega))
      refine .inr ⟨c, o, rfl, hcl, fun i hi => ?_⟩
      rw [hlen] at hi
      have h2 := hc i (by omega)
      rw [add_at] at h2
      rw [h2]
      simp [hi]
theorem open_i64 {fuel : Nat} {cs : List Value} {x : DataW H × List MemPlace} (h : DataW.trod enc Tryd.prog W base sp held fuel 2 cs = some x) : ∃ a, cs = [.int .i64 a] ∧ (Lit.int .i64 a).wf = true := by
  obtain ⟨a, hk, _, hw⟩ := DataW.trod_int Tryd.underlying2 h
  exact ⟨a, hk, hw⟩
end

end Go.Proofs.YtllaiigjkchahaaDoor
