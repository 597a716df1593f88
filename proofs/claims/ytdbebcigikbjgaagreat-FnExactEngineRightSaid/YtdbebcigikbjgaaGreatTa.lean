/-
  A TABLE OF THE LAWS, OPENED: what an argument that reads as one is.
-/
import Derived.Test.YtdbebcigikbjgaaGreatAq
import Derived.ChangeSame
import Derived.ChangeSlices
import Derived.ChangeArms
import Derived.Deep.Strs
import Derived.Deep.Slices
namespace Go.Proofs.YtdbebcigikbjgaaGreat
open Go.RowKit Go.ChangeShapes Go.WideShapes
set_option linter.unusedVariables false

theorem add_at (c o i : Nat) : (⟨c, o, none⟩ : Addr).add i = ⟨c, o + i, none⟩ := by
  unfold Addr.add
  by_cases h : i = 0 <;> simp [h]
theorem addr_none {w : World} {x : Addr} {v : Value} (h : w.cell? (x.add 0) = some v) : ∃ c o, x = ⟨c, o, none⟩ ∧ c < w.heap.size := by
  obtain ⟨c, o, spot⟩ := x
  have hs' : spot = none := by simpa [Addr.add] using World.cell?_spot h
  subst hs'
  rw [add_at] at h
  refine ⟨c, o, rfl, ?_⟩
  unfold World.cell? at h
  cases e : w.heap[c]? with
  | none => simp [e] at h
  | some ob => exact (Array.getElem?_eq_some_iff.1 e).1
theorem cells85 : Tryz.prog.cellsOf 94 = 3 := by kernel_rfl
theorem cells88 : Tryz.prog.cellsOf 103 = 3 := by kernel_rfl
theorem cells2' : Tryz.prog.cellsOf 2 = 1 := by kernel_rfl
theorem cells29 : Tryz.prog.cellsOf 26 = 1 := by kernel_rfl
theorem cells37 : Tryz.prog.cellsOf 22 = 1 := by kernel_rfl
theorem cells38 : Tryz.prog.cellsOf 23 = 1 := by kernel_rfl

section
variable {H : Type} {enc : TypeId × Value → H} {W : World} {base : Nat} {sp : Nat → Bool} {held : Bool}

theorem open_dom {fuel : Nat} {cs : List Value} {x : DataW H × List MemPlace} (h : DataW.trod enc Tryz.prog W base sp held fuel 26 cs = some x) :
    ∃ sl cap zs, cs = [.slice sl (List.length zs) cap] ∧ Ints W sl zs ∧ zs.length ≤ maxLen := by
  rcases open_ints Tryz.underlying26 Tryz.underlying2 cells2' h with ⟨rfl, _⟩ | ⟨a, len, cap, zs, rfl, _, hl, hm, hz, _, hc, _⟩
  · exact ⟨none, 0, [], rfl, .inl rfl, Nat.zero_le _⟩
  · have hlz : len ≤ zs.length := by rw [hz]; split <;> omega
    have hlen : (zs.take len).length = len := by rw [List.length_take]; omega
    refine ⟨some a, cap, zs.take len, by rw [hlen], ?_, by rw [hlen]; omega⟩
    by_cases h0 : len = 0
    · subst h0; exact .inl (by simp)
    · obtain ⟨c, o, rfl, hcl⟩ := addr_none (hc 0 (by omega))
      refine .inr ⟨c, o, rfl, hcl, fun i hi => ?_⟩
      rw [hlen] at hi
      have h2 := hc i (by omega)
      rw [add_at] at h2
      rw [h2]
      simp [hi]
theorem open_i64 {fuel : Nat} {cs : List Value} {x : DataW H × List MemPlace} (h : DataW.trod enc Tryz.prog W base sp held fuel 2 cs = some x) : ∃ a, cs = [.int .i64 a] ∧ (Lit.int .i64 a).wf = true := by
  obtain ⟨a, hk, _, hw⟩ := DataW.trod_int Tryz.underlying2 h
  exact ⟨a, hk, hw⟩
theorem open_st1 {fuel : Nat} {cs : List Value} {x : DataW H × List MemPlace} (h : DataW.trod enc Tryz.prog W base sp held fuel 94 cs = some x) :
    ∃ a b sl cap zs, cs = [.int .i64 a, .int .i64 b, .slice sl (List.length zs) cap] ∧ Ints W sl zs ∧ zs.length ≤ maxLen := by
  obtain ⟨y0, y1, y2, n, _, hl, f0, f1, f2⟩ := Go.Deep.trod_struct3 Tryz.underlying94 h
  rw [cells85] at hl
  obtain ⟨c0, c1, c2, rfl⟩ : ∃ c0 c1 c2, cs = [c0, c1, c2] := by
    rcases cs with _ | ⟨a, _ | ⟨b, _ | ⟨c, _ | ⟨d, r⟩⟩⟩⟩ <;> simp at hl
    exact ⟨a, b, c, rfl⟩
  simp only [cells2', cells29, List.drop_zero, List.take_succ_cons, List.take_zero, List.drop_succ_cons] at f0 f1 f2
  obtain ⟨a, ha, _⟩ := open_i64 f0
  obtain ⟨b, hb, _⟩ := open_i64 f1
  obtain ⟨sl, cap, zs, hz, hi, hln⟩ := open_dom f2
  simp at ha hb hz
  exact ⟨a, b, sl, cap, zs, by rw [ha, hb, hz], hi, hln⟩
theorem open_pr1 {fuel : Nat} {cs : List Value} {x : DataW H × List MemPlace} (h : DataW.trod enc Tryz.prog W base sp held fuel 103 cs = some x) :
    ∃ p : LPr, cs = [.int .i64 p.1, .int .i64 p.2.1, .int .i64 p.2.2] ∧ WfP p := by
  obtain ⟨y0, y1, y2, n, _, hl, f0, f1, f2⟩ := Go.Deep.trod_struct3 Tryz.underlying103 h
  rw [cells88] at hl
  obtain ⟨c0, c1, c2, rfl⟩ : ∃ c0 c1 c2, cs = [c0, c1, c2] := by
    rcases cs with _ | ⟨a, _ | ⟨b, _ | ⟨c, _ | ⟨d, r⟩⟩⟩⟩ <;> simp at hl
    exact ⟨a, b, c, rfl⟩
  simp only [cells2', List.drop_zero, List.take_succ_cons, List.take_zero, List.drop_succ_cons] at f0 f1 f2
  obtain ⟨a, ha, wa⟩ := open_i64 f0
  obtain ⟨b, hb, wb⟩ := open_i64 f1
  obtain ⟨c, hc, wc⟩ := open_i64 f2
  simp at ha hb hc
  exact ⟨(a, b, c), by rw [ha, hb, hc], ⟨wa, wb⟩, wc⟩
theorem open_sts {fuel : Nat} {cs : List Value} {x : DataW H × List MemPlace} (h : DataW.trod enc Tryz.prog W base sp held fuel 22 cs = some x) :
    ∃ sl cap rs, cs = [.slice sl (List.length rs) cap] ∧ Sts0 W sl rs ∧ rs.length ≤ maxLen := by
  rcases Go.Deep.open_slice Tryz.underlying22 h with ⟨rfl, _⟩ | ⟨a, len, cap, m, n, D, Pl, rfl, _, hl, hm, hmm, _, hx⟩
  · exact ⟨none, 0, [], rfl, ⟨.inl rfl, fun r hr => by cases hr⟩, Nat.zero_le _⟩
  · have hlm : len ≤ m := by rw [hmm]; split <;> omega
    have each : ∀ i, i < len → ∃ r : LSt, W.cell? (a.add (i * 3)) = some (.int .i64 r.1) ∧ W.cell? (a.add (i * 3 + 1)) = some (.int .i64 r.2.1) ∧ W.cell? (a.add (i * 3 + 2)) = some r.2.2.1 ∧ DomIn0 W r := by
      intro i hi
      obtain ⟨cs', h1, h2⟩ := hx i (by omega)
      rw [cells85] at h1
      obtain ⟨_, hlen, hcell⟩ := World.cells?_some h1
      obtain ⟨p, q, sl, kp, zs, rfl, hi2, hln⟩ := open_st1 h2
      have e0 := hcell 0 (by omega)
      have e1 := hcell 1 (by omega)
      have e2 := hcell 2 (by omega)
      rw [Go.Deep.add_add] at e0 e1 e2
      exact ⟨(p, q, .slice sl zs.length kp, zs), by simpa using e0, by simpa using e1, by simpa using e2, ⟨sl, kp, rfl, hi2, hln⟩⟩
    obtain ⟨q, hq⟩ := Go.Deep.choose_lt each
    have hlen : ((List.range len).map q).length = len := by simp
    refine ⟨some a, cap, (List.range len).map q, by rw [hlen], ⟨?_, fun r hr => ?_⟩, by rw [hlen]; omega⟩
    · by_cases h0 : len = 0
      · subst h0; exact .inl rfl
      · obtain ⟨c, o, rfl, hcl⟩ := addr_none (hq 0 (by omega)).1
        refine .inr ⟨c, o, rfl, hcl, fun i hi => ?_⟩
        have hi' : i < len := by simpa using hi
        obtain ⟨a0, a1, a2, _⟩ := hq i hi'
        rw [add_at] at a0 a1 a2
        simp only [List.getElem_map, List.getElem_range]
        exact ⟨a0, by rw [Nat.add_assoc]; exact a1, by rw [Nat.add_assoc]; exact a2⟩
    · obtain ⟨i, hi, rfl⟩ := List.mem_map.1 hr
      exact (hq i (by simpa using hi)).2.2.2
theorem open_prs {fuel : Nat} {cs : List Value} {x : DataW H × List MemPlace} (h : DataW.trod enc Tryz.prog W base sp held fuel 23 cs = some x) :
    ∃ sl cap ps, cs = [.slice sl (List.length ps) cap] ∧ Prs W sl ps ∧ ps.length ≤ maxLen ∧ ∀ p ∈ ps, WfP p := by
  rcases Go.Deep.open_slice Tryz.underlying23 h with ⟨rfl, _⟩ | ⟨a, len, cap, m, n, D, Pl, rfl, _, hl, hm, hmm, _, hx⟩
  · exact ⟨none, 0, [], rfl, .inl rfl, Nat.zero_le _, fun p hp => by cases hp⟩
  · have hlm : len ≤ m := by rw [hmm]; split <;> omega
    have each : ∀ i, i < len → ∃ p : LPr, W.cell? (a.add (i * 3)) = some (.int .i64 p.1) ∧ W.cell? (a.add (i * 3 + 1)) = some (.int .i64 p.2.1) ∧ W.cell? (a.add (i * 3 + 2)) = some (.int .i64 p.2.2) ∧ WfP p := by
      intro i hi
      obtain ⟨cs', h1, h2⟩ := hx i (by omega)
      rw [cells88] at h1
      obtain ⟨_, hlen, hcell⟩ := World.cells?_some h1
      obtain ⟨p, rfl, hw⟩ := open_pr1 h2
      have e0 := hcell 0 (by omega)
      have e1 := hcell 1 (by omega)
      have e2 := hcell 2 (by omega)
      rw [Go.Deep.add_add] at e0 e1 e2
      exact ⟨p, by simpa using e0, by simpa using e1, by simpa using e2, hw⟩
    obtain ⟨q, hq⟩ := Go.Deep.choose_lt each
    have hlen : ((List.range len).map q).length = len := by simp
    refine ⟨some a, cap, (List.range len).map q, by rw [hlen], ?_, by rw [hlen]; omega, fun p hp => ?_⟩
    · by_cases h0 : len = 0
      · subst h0; exact .inl rfl
      · obtain ⟨c, o, rfl, hcl⟩ := addr_none (hq 0 (by omega)).1
        refine .inr ⟨c, o, rfl, hcl, fun i hi => ?_⟩
        have hi' : i < len := by simpa using hi
        obtain ⟨a0, a1, a2, _⟩ := hq i hi'
        rw [add_at] at a0 a1 a2
        simp only [List.getElem_map, List.getElem_range]
        exact ⟨a0, by rw [Nat.add_assoc]; exact a1, by rw [Nat.add_assoc]; exact a2⟩
    · obtain ⟨i, hi, rfl⟩ := List.mem_map.1 hp
      exact (hq i (by simpa using hi)).2.2.2
/-- A table handed in. -/
theorem open_tab {c0 c1 : Value} {d : DataW H} {ps : List MemPlace} (h : DataW.Trod enc Tryz.prog W base sp held 25 (.agg #[c0, c1]) d ps) :
    ∃ sl cap sl2 cap2 rs qs, c0 = .slice sl (List.length rs) cap ∧ c1 = .slice sl2 (List.length qs) cap2 ∧ InT W sl sl2 rs qs := by
  obtain ⟨fuel, hf⟩ := h
  obtain ⟨y0, y1, n, hx, _, f0, f1⟩ := trod_struct2 Tryz.underlying25 hf
  simp only [Value.cells, cells37, cells38, List.drop_zero, List.take_succ_cons, List.take_zero, List.drop_succ_cons] at f0 f1
  obtain ⟨sl, cap, rs, h0, hs, hl⟩ := open_sts f0
  obtain ⟨sl2, cap2, qs, h1, hp, hl2, hw⟩ := open_prs f1
  simp at h0 h1
  exact ⟨sl, cap, sl2, cap2, rs, qs, h0, h1, ⟨hs, hp, hw, hl, hl2⟩⟩
end

end Go.Proofs.YtdbebcigikbjgaaGreat
