/-
  A PLAN OF THE LAWS, OPENED: what an argument that reads as one is; and a list of numbers.
-/
import Derived.Test.YtllaiigjkchahaaDoorTa
import Derived.Test.YtllaiigjkchahaaDoorPa
import Derived.Test.YtllaiigjkchahaaDoorAf
namespace Go.Proofs.YtllaiigjkchahaaDoor
open Go.RowKit Go.ChangeShapes Go.WideShapes
set_option linter.unusedVariables false

theorem cells108 : Tryd.prog.cellsOf 43 = 2 := by kernel_rfl
/-- A place whose numbers are numbers of 64 bits. -/
def WfPl (p : LPl) : Prop := wfI p.1 ∧ wfI p.2
section
variable {H : Type} {enc : TypeId × Value → H} {W : World} {base : Nat} {sp : Nat → Bool} {held : Bool}
theorem open_pl1 {fuel : Nat} {cs : List Value} {x : DataW H × List MemPlace} (h : DataW.trod enc Tryd.prog W base sp held fuel 43 cs = some x) :
    ∃ p : LPl, cs = [.int .i64 p.1, .int .i64 p.2] ∧ WfPl p := by
  obtain ⟨y0, y1, n, _, hl, f0, f1⟩ := trod_struct2 Tryd.underlying43 h
  rw [cells108] at hl
  obtain ⟨c0, c1, rfl⟩ : ∃ c0 c1, cs = [c0, c1] := by
    rcases cs with _ | ⟨a, _ | ⟨b, _ | ⟨c, r⟩⟩⟩ <;> simp at hl
    exact ⟨a, b, rfl⟩
  simp only [cells2', List.drop_zero, List.take_succ_cons, List.take_zero, List.drop_succ_cons] at f0 f1
  obtain ⟨a, ha, wa⟩ := open_i64 f0
  obtain ⟨b, hb, wb⟩ := open_i64 f1
  simp at ha hb
  exact ⟨(a, b), by rw [ha, hb], wa, wb⟩
theorem open_pls0 {fuel : Nat} {cs : List Value} {x : DataW H × List MemPlace} (h : DataW.trod enc Tryd.prog W base sp held fuel 22 cs = some x) :
    ∃ sl cap ps, cs = [.slice sl (List.length ps) cap] ∧ Pls W sl ps ∧ ps.length ≤ maxLen ∧ ∀ p ∈ ps, WfPl p := by
  rcases Go.Deep.open_slice Tryd.underlying22 h with ⟨rfl, _⟩ | ⟨a, len, cap, m, n, D, Pl, rfl, _, hl, hm, hmm, _, hx⟩
  · exact ⟨none, 0, [], rfl, .inl rfl, Nat.zero_le _, fun p hp => by cases hp⟩
  · have hlm : len ≤ m := by rw [hmm]; split <;> omega
    have each : ∀ i, i < len → ∃ p : LPl, W.cell? (a.add (i * 2)) = some (.int .i64 p.1) ∧ W.cell? (a.add (i * 2 + 1)) = some (.int .i64 p.2) ∧ WfPl p := by
      intro i hi
      obtain ⟨cs', h1, h2⟩ := hx i (by omega)
      rw [cells108] at h1
      obtain ⟨_, hlen, hcell⟩ := World.cells?_some h1
      obtain ⟨p, rfl, hw⟩ := open_pl1 h2
      have e0 := hcell 0 (by omega)
      have e1 := hcell 1 (by omega)
      rw [Go.Deep.add_add] at e0 e1
      exact ⟨p, by simpa using e0, by simpa using e1, hw⟩
    obtain ⟨q, hq⟩ := Go.Deep.choose_lt each
    have hlen : ((List.range len).map q).length = len := by simp
    refine ⟨some a, cap, (List.range len).map q, by rw [hlen], ?_, by rw [hlen]; omega, fun p hp => ?_⟩
    · by_cases h0 : len = 0
      · subst h0; exact .inl rfl
      · obtain ⟨c, o, rfl, hcl⟩ := addr_none (hq 0 (by omega)).1
        refine .inr ⟨c, o, rfl, hcl, fun i hi => ?_⟩
        have hi' : i < len := by simpa using hi
        obtain ⟨a0, a1, _⟩ := hq i hi'
        rw [add_at] at a0 a1
        simp only [List.getElem_map, List.getElem_range]
        exact ⟨a0, by rw [Nat.add_assoc]; exact a1⟩
    · obtain ⟨i, hi, rfl⟩ := List.mem_map.1 hp
      exact (hq i (by simpa using hi)).2.2
/-- A plan handed in. -/
theorem open_pls {a : Option Addr} {len cap : Nat} {d : DataW H} {ps : List MemPlace} (h : DataW.Trod enc Tryd.prog W base sp held 22 (.slice a len cap) d ps) :
    ∃ pl : List LPl, len = pl.length ∧ Pls W a pl ∧ pl.length ≤ maxLen ∧ ∀ p ∈ pl, WfPl p := by
  obtain ⟨fuel, hf⟩ := h
  obtain ⟨sl, cap', pl, e, h1, h2, h3⟩ := open_pls0 hf
  simp [Value.cells] at e
  obtain ⟨rfl, rfl, rfl⟩ := e
  exact ⟨pl, rfl, h1, h2, h3⟩
/-- A list of numbers handed in. -/
theorem open_nums {a : Option Addr} {len cap : Nat} {d : DataW H} {ps : List MemPlace} (h : DataW.Trod enc Tryd.prog W base sp held 62 (.slice a len cap) d ps) :
    ∃ zs : List Int, len = zs.length ∧ Ints W a zs ∧ zs.length ≤ maxLen := by
  obtain ⟨fuel, hf⟩ := h
  obtain ⟨sl, cap', zs, e, h1, h2⟩ := open_dom hf
  simp [Value.cells] at e
  obtain ⟨rfl, rfl, rfl⟩ := e
  exact ⟨zs, rfl, h1, h2⟩
end

end Go.Proofs.YtllaiigjkchahaaDoor
