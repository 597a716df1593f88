/-
  LISTS OF LISTS OF NUMBERS, AS THE LAWS ARE GIVEN THEM, OPENED.
-/
import Derived.Test.YtllaiigjkchahaaDoorBf
import Derived.ChangeSame
import Derived.ChangeSlices
import Derived.ChangeArms
import Derived.Deep.Strs
import Derived.Deep.Slices
namespace Go.Proofs.YtllaiigjkchahaaDoor
open Go.RowKit Go.ChangeShapes Go.WideShapes
set_option linter.unusedVariables false

theorem c_add_at (c o i : Nat) : (⟨c, o, none⟩ : Addr).add i = ⟨c, o + i, none⟩ := by
  unfold Addr.add
  by_cases h : i = 0 <;> simp [h]
theorem c_addr_none {w : World} {x : Addr} {v : Value} (h : w.cell? (x.add 0) = some v) : ∃ c o, x = ⟨c, o, none⟩ ∧ c < w.heap.size := by
  obtain ⟨c, o, spot⟩ := x
  have hs' : spot = none := by simpa [Addr.add] using World.cell?_spot h
  subst hs'
  rw [c_add_at] at h
  refine ⟨c, o, rfl, ?_⟩
  unfold World.cell? at h
  cases e : w.heap[c]? with
  | none => simp [e] at h
  | some ob => exact (Array.getElem?_eq_some_iff.1 e).1
theorem c_cells2 : Tryd.prog.cellsOf 2 = 1 := by kernel_rfl
theorem c_cellsA : Tryd.prog.cellsOf 62 = 1 := by kernel_rfl
theorem c_cellsB : Tryd.prog.cellsOf 29 = 1 := by kernel_rfl

section
variable {H : Type} {enc : TypeId × Value → H} {W : World} {base : Nat} {sp : Nat → Bool} {held : Bool}

theorem open_row {fuel : Nat} {cs : List Value} {x : DataW H × List MemPlace} (h : DataW.trod enc Tryd.prog W base sp held fuel 62 cs = some x) :
    ∃ sl cap zs, cs = [.slice sl (List.length zs) cap] ∧ Ints W sl zs ∧ zs.length ≤ maxLen ∧ ∀ z ∈ zs, wfI z := by
  rcases open_ints Tryd.underlying62 Tryd.underlying2 c_cells2 h with ⟨rfl, _⟩ | ⟨a, len, cap, zs, rfl, _, hl, hm, hz, _, hc, hw⟩
  · exact ⟨none, 0, [], rfl, .inl rfl, Nat.zero_le _, fun z hz => by cases hz⟩
  · have hlz : len ≤ zs.length := by rw [hz]; split <;> omega
    have hlen : (zs.take len).length = len := by rw [List.length_take]; omega
    refine ⟨some a, cap, zs.take len, by rw [hlen], ?_, by rw [hlen]; omega, fun z hz' => hw z (List.mem_of_mem_take hz')⟩
    by_cases h0 : len = 0
    · subst h0; exact .inl (by simp)
    · obtain ⟨c, o, rfl, hcl⟩ := c_addr_none (hc 0 (by omega))
      refine .inr ⟨c, o, rfl, hcl, fun i hi => ?_⟩
      rw [hlen] at hi
      have h2 := hc i (by omega)
      rw [c_add_at] at h2
      rw [h2]
      simp [hi]
theorem open_rows {fuel : Nat} {cs : List Value} {x : DataW H × List MemPlace} (h : DataW.trod enc Tryd.prog W base sp held fuel 29 cs = some x) :
    ∃ sl cap cl, cs = [.slice sl (List.length cl) cap] ∧ (cl.length ≤ maxLen ∧ Cls W sl cl ∧ ∀ r ∈ cl, ∀ z ∈ r.2, wfI z) := by
  rcases Go.Deep.open_slice Tryd.underlying29 h with ⟨rfl, _⟩ | ⟨a, len, cap, m, n, D, Pl, rfl, _, hl, hm, hmm, _, hx⟩
  · exact ⟨none, 0, [], rfl, ⟨Nat.zero_le _, ⟨.inl rfl, fun r hr => by cases hr⟩, fun r hr => by cases hr⟩⟩
  · have hlm : len ≤ m := by rw [hmm]; split <;> omega
    have each : ∀ i, i < len → ∃ r : LCl, W.cell? (a.add i) = some r.1 ∧ ClIn W r ∧ ∀ z ∈ r.2, wfI z := by
      intro i hi
      obtain ⟨cs', h1, h2⟩ := hx i (by omega)
      rw [c_cellsA, Nat.mul_one] at h1
      obtain ⟨_, hlen, hcell⟩ := World.cells?_some h1
      obtain ⟨sl, kp, zs, rfl, hi2, hln, hw⟩ := open_row h2
      have e0 := hcell 0 (by omega)
      rw [Go.Deep.add_add] at e0
      exact ⟨(.slice sl zs.length kp, zs), by simpa using e0, ⟨sl, kp, rfl, hi2, hln⟩, hw⟩
    obtain ⟨q, hq⟩ := Go.Deep.choose_lt each
    have hlen : ((List.range len).map q).length = len := by simp
    have mem : ∀ r ∈ (List.range len).map q, ClIn W r ∧ ∀ z ∈ r.2, wfI z := fun r hr => by
      obtain ⟨i, hi, rfl⟩ := List.mem_map.1 hr
      exact (hq i (by simpa using hi)).2
    refine ⟨some a, cap, (List.range len).map q, by rw [hlen], ⟨by rw [hlen]; omega, ⟨?_, fun r hr => (mem r hr).1⟩, fun r hr => (mem r hr).2⟩⟩
    by_cases h0 : len = 0
    · subst h0; exact .inl rfl
    · obtain ⟨c, o, rfl, hcl⟩ := c_addr_none (hq 0 (by omega)).1
      refine .inr ⟨c, o, rfl, hcl, fun i hi => ?_⟩
      have hi' : i < len := by simpa using hi
      have a0 := (hq i hi').1
      rw [c_add_at] at a0
      simp only [List.getElem_map, List.getElem_range]
      exact a0
end
end Go.Proofs.YtllaiigjkchahaaDoor
