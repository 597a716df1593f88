/-
  A TABLE OF THE LAWS, OPENED: what an argument that reads as one is.
  A PLAN OF THE LAWS, OPENED: what an argument that reads as one is; and a list of numbers.
  A CLOCK OF THE LAWS, OPENED: what an argument that reads as one is.
-/
import Derived.Test.YtanoklpffenljaaGreatDoorAq
import Derived.ChangeSame
import Derived.ChangeSlices
import Derived.ChangeArms
import Derived.Deep.Strs
import Derived.Deep.Slices
import Derived.Test.YtanoklpffenljaaGreatDoorPa
import Derived.Test.YtanoklpffenljaaGreatDoorCi
namespace Go.Proofs.YtanoklpffenljaaGreatDoor
open Go.RowKit Go.ChangeShapes Go.WideShapes
set_option linter.unusedVariables false

theorem add_at (c o i : Nat) : (⟨c, o, none⟩ : Addr).add i = ⟨c, o + i, none⟩ := by
  unfold Addr.add
  by_cases h : i = 0 <;> simp [h]
theorem addr_none {w : World} {x : Addr} {v : Value} (h : w.cell? (x.add 0) = some v) : ∃ c o, x = ⟨c, o, none⟩ ∧ c < w.heap.size := by
  obtain ⟨c, o, spot⟩ := x
  have hs' : spot = none := by simpa [Addr.add] using World.cell?_spot h
  subst hs'
  rw [add_at] at h
  refine ⟨c, o, rfl, ?_⟩
  unfold World.cell? at h
  cases e : w.heap[c]? with
  | none => simp [e] at h
  | some ob => exact (Array.getElem?_eq_some_iff.1 e).1
theorem cells85 : Tryz.prog.cellsOf 135 = 3 := by kernel_rfl
theorem cells88 : Tryz.prog.cellsOf 143 = 3 := by kernel_rfl
theorem cells2' : Tryz.prog.cellsOf 2 = 1 := by kernel_rfl
theorem cells29 : Tryz.prog.cellsOf 43 = 1 := by kernel_rfl
theorem cells37 : Tryz.prog.cellsOf 22 = 1 := by kernel_rfl
theorem cells38 : Tryz.prog.cellsOf 23 = 1 := by kernel_rfl

section
variable {H : Type} {enc : TypeId × Value → H} {W : World} {base : Nat} {sp : Nat → Bool} {held : Bool}

theorem open_dom {fuel : Nat} {cs : List Value} {x : DataW H × List MemPlace} (h : DataW.trod enc Tryz.prog W base sp held fuel 43 cs = some x) :
    ∃ sl cap zs, cs = [.slice sl (List.length zs) cap] ∧ Ints W sl zs ∧ zs.length ≤ maxLen := by
  rcases open_ints Tryz.underlying43 Tryz.underlying2 cells2' h with ⟨rfl, _⟩ | ⟨a, len, cap, zs, rfl, _, hl, hm, hz, _, hc, _⟩
  · exact ⟨none, 0, [], rfl, .inl rfl, Nat.zero_le _⟩
  · have hlz : len ≤ zs.length := by rw [hz]; split <;> omega
    have hlen : (zs.take len).length = len := by rw [List.length_take]; omega
    refine ⟨some a, cap, zs.take len, by rw [hlen], ?_, by rw [hlen]; omega⟩
    by_cases h0 : len = 0
    · subst h0; exact .inl (by simp)
    · obtain ⟨c, o, rfl, hcl⟩ := addr_none (hc 0 (by omega))
      refine .inr ⟨c, o, rfl, hcl, fun i hi => ?_⟩
      rw [hlen] at hi
      have h2 := hc i (by omega)
      rw [add_at] at h2
      rw [h2]
      simp [hi]
theorem open_i64 {fuel : Nat} {cs : List Value} {x : DataW H × List MemPlace} (h : DataW.trod enc Tryz.prog W base sp held fuel 2 cs = some x) : ∃ a, cs = [.int .i64 a] ∧ (Lit.int .i64 a).wf = true := by
  obtain ⟨a, hk, _, hw⟩ := DataW.trod_int Tryz.underlying2 h
  exact ⟨a, hk, hw⟩
theorem open_st1 {fuel : Nat} {cs : List Value} {x : DataW H × List MemPlace} (h : DataW.trod enc Tryz.prog W base sp held fuel 135 cs = some x) :
    ∃ a b sl cap zs, cs = [.int .i64 a, .int .i64 b, .slice sl (List.length zs) cap] ∧ Ints W sl zs ∧ zs.length ≤ maxLen := by
  obtain ⟨y0, y1, y2, n, _, hl, f0, f1, f2⟩ := Go.Deep.trod_struct3 Tryz.underlying135 h
  rw [cells85] at hl
  obtain ⟨c0, c1, c2, rfl⟩ : ∃ c0 c1 c2, cs = [c0, c1, c2] := by
    rcases cs with _ | ⟨a, _ | ⟨b, _ | ⟨c, _ | ⟨d, r⟩⟩⟩⟩ <;> simp at hl
    exact ⟨a, b, c, rfl⟩
  simp only [cells2', cells29, List.drop_zero, List.take_succ_cons, List.take_zero, List.drop_succ_cons] at f0 f1 f2
  obtain ⟨a, ha, _⟩ := open_i64 f0
  obtain ⟨b, hb, _⟩ := open_i64 f1
  obtain ⟨sl, cap, zs, hz, hi, hln⟩ := open_dom f2
  simp at ha hb hz
  exact ⟨a, b, sl, cap, zs, by rw [ha, hb, hz], hi, hln⟩
theorem open_pr1 {fuel : Nat} {cs : List Value} {x : DataW H × List MemPlace} (h : DataW.trod enc Tryz.prog W base sp held fuel 143 cs = some x) :
    ∃ p : LPr, cs = [.int .i64 p.1, .int .i64 p.2.1, .int .i64 p.2.2] ∧ WfP p := by
  obtain ⟨y0, y1, y2, n, _, hl, f0, f1, f2⟩ := Go.Deep.trod_struct3 Tryz.underlying143 h
  rw [cells88] at hl
  obtain ⟨c0, c1, c2, rfl⟩ : ∃ c0 c1 c2, cs = [c0, c1, c2] := by
    rcases cs with _ | ⟨a, _ | ⟨b, _ | ⟨c, _ | ⟨d, r⟩⟩⟩⟩ <;> simp at hl
    exact ⟨a, b, c, rfl⟩
  simp only [cells2', List.drop_zero, List.take_succ_cons, List.take_zero, List.drop_succ_cons] at f0 f1 f2
  obtain ⟨a, ha, wa⟩ := open_i64 f0
  obtain ⟨b, hb, wb⟩ := open_i64 f1
  obtain ⟨c, hc, wc⟩ := open_i64 f2
  simp at ha hb hc
  exact ⟨(a, b, c), by rw [ha, hb, hc], ⟨wa, wb⟩, wc⟩
theorem open_sts {fuel : Nat} {cs : List Value} {x : DataW H × List MemPlace} (h : DataW.trod enc Tryz.prog W base sp held fuel 22 cs = some x) :
    ∃ sl cap rs, cs = [.slice sl (List.length rs) cap] ∧ Sts0 W sl rs ∧ rs.length ≤ maxLen := by
  rcases Go.Deep.open_slice Tryz.underlying22 h with ⟨rfl, _⟩ | ⟨a, len, cap, m, n, D, Pl, rfl, _, hl, hm, hmm, _, hx⟩
  · exact ⟨none, 0, [], rfl, ⟨.inl rfl, fun r hr => by cases hr⟩, Nat.zero_le _⟩
  · have hlm : len ≤ m := by rw [hmm]; split <;> omega
    have each : ∀ i, i < len → ∃ r : LSt, W.cell? (a.add (i * 3)) = some (.int .i64 r.1) ∧ W.cell? (a.add (i * 3 + 1)) = some (.int .i64 r.2.1) ∧ W.cell? (a.add (i * 3 + 2)) = some r.2.2.1 ∧ DomIn0 W r := by
      intro i hi
      obtain ⟨cs', h1, h2⟩ := hx i (by omega)
      rw [cells85] at h1
      obtain ⟨_, hlen, hcell⟩ := World.cells?_some h1
      obtain ⟨p, q, sl, kp, zs, rfl, hi2, hln⟩ := open_st1 h2
      have e0 := hcell 0 (by omega)
      have e1 := hcell 1 (by omega)
      have e2 := hcell 2 (by omega)
      rw [Go.Deep.add_add] at e0 e1 e2
      exact ⟨(p, q, .slice sl zs.length kp, zs), by simpa using e0, by simpa using e1, by simpa using e2, ⟨sl, kp, rfl, hi2, hln⟩⟩
    obtain ⟨q, hq⟩ := Go.Deep.choose_lt each
    have hlen : ((List.range len).map q).length = len := by simp
    refine ⟨some a, cap, (List.range len).map q, by rw [hlen], ⟨?_, fun r hr => ?_⟩, by rw [hlen]; omega⟩
    · by_cases h0 : len = 0
      · subst h0; exact .inl rfl
      · obtain ⟨c, o, rfl, hcl⟩ := addr_none (hq 0 (by omega)).1
        refine .inr ⟨c, o, rfl, hcl, fun i hi => ?_⟩
        have hi' : i < len := by simpa using hi
        obtain ⟨a0, a1, a2, _⟩ := hq i hi'
        rw [add_at] at a0 a1 a2
        simp only [List.getElem_map, List.getElem_range]
        exact ⟨a0, by rw [Nat.add_assoc]; exact a1, by rw [Nat.add_assoc]; exact a2⟩
    · obtain ⟨i, hi, rfl⟩ := List.mem_map.1 hr
      exact (hq i (by simpa using hi)).2.2.2
theorem open_prs {fuel : Nat} {cs : List Value} {x : DataW H × List MemPlace} (h : DataW.trod enc Tryz.prog W base sp held fuel 23 cs = some x) :
    ∃ sl cap ps, cs = [.slice sl (List.length ps) cap] ∧ Prs W sl ps ∧ ps.length ≤ maxLen ∧ ∀ p ∈ ps, WfP p := by
  rcases Go.Deep.open_slice Tryz.underlying23 h with ⟨rfl, _⟩ | ⟨a, len, cap, m, n, D, Pl, rfl, _, hl, hm, hmm, _, hx⟩
  · exact ⟨none, 0, [], rfl, .inl rfl, Nat.zero_le _, fun p hp => by cases hp⟩
  · have hlm : len ≤ m := by rw [hmm]; split <;> omega
    have each : ∀ i, i < len → ∃ p : LPr, W.cell? (a.add (i * 3)) = some (.int .i64 p.1) ∧ W.cell? (a.add (i * 3 + 1)) = some (.int .i64 p.2.1) ∧ W.cell? (a.add (i * 3 + 2)) = some (.int .i64 p.2.2) ∧ WfP p := by
      intro i hi
      obtain ⟨cs', h1, h2⟩ := hx i (by omega)
      rw [cells88] at h1
      obtain ⟨_, hlen, hcell⟩ := World.cells?_some h1
      obtain ⟨p, rfl, hw⟩ := open_pr1 h2
      have e0 := hcell 0 (by omega)
      have e1 := hcell 1 (by omega)
      have e2 := hcell 2 (by omega)
      rw [Go.Deep.add_add] at e0 e1 e2
      exact ⟨p, by simpa using e0, by simpa using e1, by simpa using e2, hw⟩
    obtain ⟨q, hq⟩ := Go.Deep.choose_lt each
    have hlen : ((List.range len).map q).length = len := by simp
    refine ⟨some a, cap, (List.range len).map q, by rw [hlen], ?_, by rw [hlen]; omega, fun p hp => ?_⟩
    · by_cases h0 : len = 0
      · subst h0; exact .inl rfl
      · obtain ⟨c, o, rfl, hcl⟩ := addr_none (hq 0 (by omega)).1
        refine .inr ⟨c, o, rfl, hcl, fun i hi => ?_⟩
        have hi' : i < len := by simpa using hi
        obtain ⟨a0, a1, a2, _⟩ := hq i hi'
        rw [add_at] at a0 a1 a2
        simp only [List.getElem_map, List.getElem_range]
        exact ⟨a0, by rw [Nat.add_assoc]; exact a1, by rw [Nat.add_assoc]; exact a2⟩
    · obtain ⟨i, hi, rfl⟩ := List.mem_map.1 hp
      exact (hq i (by simpa using hi)).2.2.2
/-- A table handed in. -/
theorem open_tab {c0 c1 : Value} {d : DataW H} {ps : List MemPlace} (h : DataW.Trod enc Tryz.prog W base sp held 25 (.agg #[c0, c1]) d ps) :
    ∃ sl cap sl2 cap2 rs qs, c0 = .slice sl (List.length rs) cap ∧ c1 = .slice sl2 (List.length qs) cap2 ∧ InT W sl sl2 rs qs := by
  obtain ⟨fuel, hf⟩ := h
  obtain ⟨y0, y1, n, hx, _, f0, f1⟩ := trod_struct2 Tryz.underlying25 hf
  simp only [Value.cells, cells37, cells38, List.drop_zero, List.take_succ_cons, List.take_zero, List.drop_succ_cons] at f0 f1
  obtain ⟨sl, cap, rs, h0, hs, hl⟩ := open_sts f0
  obtain ⟨sl2, cap2, qs, h1, hp, hl2, hw⟩ := open_prs f1
  simp at h0 h1
  exact ⟨sl, cap, sl2, cap2, rs, qs, h0, h1, ⟨hs, hp, hw, hl, hl2⟩⟩
end

end Go.Proofs.YtanoklpffenljaaGreatDoor
namespace Go.Proofs.YtanoklpffenljaaGreatDoor
open Go.RowKit Go.ChangeShapes Go.WideShapes
set_option linter.unusedVariables false

theorem cells108 : Tryz.prog.cellsOf 99 = 2 := by kernel_rfl
/-- A place whose numbers are numbers of 64 bits. -/
def WfL (p : LPl) : Prop := wfI p.1 ∧ wfI p.2
section
variable {H : Type} {enc : TypeId × Value → H} {W : World} {base : Nat} {sp : Nat → Bool} {held : Bool}
theorem open_pl1 {fuel : Nat} {cs : List Value} {x : DataW H × List MemPlace} (h : DataW.trod enc Tryz.prog W base sp held fuel 99 cs = some x) :
    ∃ p : LPl, cs = [.int .i64 p.1, .int .i64 p.2] ∧ WfL p := by
  obtain ⟨y0, y1, n, _, hl, f0, f1⟩ := trod_struct2 Tryz.underlying99 h
  rw [cells108] at hl
  obtain ⟨c0, c1, rfl⟩ : ∃ c0 c1, cs = [c0, c1] := by
    rcases cs with _ | ⟨a, _ | ⟨b, _ | ⟨c, r⟩⟩⟩ <;> simp at hl
    exact ⟨a, b, rfl⟩
  simp only [cells2', List.drop_zero, List.take_succ_cons, List.take_zero, List.drop_succ_cons] at f0 f1
  obtain ⟨a, ha, wa⟩ := open_i64 f0
  obtain ⟨b, hb, wb⟩ := open_i64 f1
  simp at ha hb
  exact ⟨(a, b), by rw [ha, hb], wa, wb⟩
theorem open_pls0 {fuel : Nat} {cs : List Value} {x : DataW H × List MemPlace} (h : DataW.trod enc Tryz.prog W base sp held fuel 27 cs = some x) :
    ∃ sl cap ps, cs = [.slice sl (List.length ps) cap] ∧ Pls W sl ps ∧ ps.length ≤ maxLen ∧ ∀ p ∈ ps, WfL p := by
  rcases Go.Deep.open_slice Tryz.underlying27 h with ⟨rfl, _⟩ | ⟨a, len, cap, m, n, D, Pl, rfl, _, hl, hm, hmm, _, hx⟩
  · exact ⟨none, 0, [], rfl, .inl rfl, Nat.zero_le _, fun p hp => by cases hp⟩
  · have hlm : len ≤ m := by rw [hmm]; split <;> omega
    have each : ∀ i, i < len → ∃ p : LPl, W.cell? (a.add (i * 2)) = some (.int .i64 p.1) ∧ W.cell? (a.add (i * 2 + 1)) = some (.int .i64 p.2) ∧ WfL p := by
      intro i hi
      obtain ⟨cs', h1, h2⟩ := hx i (by omega)
      rw [cells108] at h1
      obtain ⟨_, hlen, hcell⟩ := World.cells?_some h1
      obtain ⟨p, rfl, hw⟩ := open_pl1 h2
      have e0 := hcell 0 (by omega)
      have e1 := hcell 1 (by omega)
      rw [Go.Deep.add_add] at e0 e1
      exact ⟨p, by simpa using e0, by simpa using e1, hw⟩
    obtain ⟨q, hq⟩ := Go.Deep.choose_lt each
    have hlen : ((List.range len).map q).length = len := by simp
    refine ⟨some a, cap, (List.range len).map q, by rw [hlen], ?_, by rw [hlen]; omega, fun p hp => ?_⟩
    · by_cases h0 : len = 0
      · subst h0; exact .inl rfl
      · obtain ⟨c, o, rfl, hcl⟩ := addr_none (hq 0 (by omega)).1
        refine .inr ⟨c, o, rfl, hcl, fun i hi => ?_⟩
        have hi' : i < len := by simpa using hi
        obtain ⟨a0, a1, _⟩ := hq i hi'
        rw [add_at] at a0 a1
        simp only [List.getElem_map, List.getElem_range]
        exact ⟨a0, by rw [Nat.add_assoc]; exact a1⟩
    · obtain ⟨i, hi, rfl⟩ := List.mem_map.1 hp
      exact (hq i (by simpa using hi)).2.2
/-- A plan handed in. -/
theorem open_pls {a : Option Addr} {len cap : Nat} {d : DataW H} {ps : List MemPlace} (h : DataW.Trod enc Tryz.prog W base sp held 27 (.slice a len cap) d ps) :
    ∃ pl : List LPl, len = pl.length ∧ Pls W a pl ∧ pl.length ≤ maxLen ∧ ∀ p ∈ pl, WfL p := by
  obtain ⟨fuel, hf⟩ := h
  obtain ⟨sl, cap', pl, e, h1, h2, h3⟩ := open_pls0 hf
  simp [Value.cells] at e
  obtain ⟨rfl, rfl, rfl⟩ := e
  exact ⟨pl, rfl, h1, h2, h3⟩
/-- A list of numbers handed in. -/
theorem open_nums {a : Option Addr} {len cap : Nat} {d : DataW H} {ps : List MemPlace} (h : DataW.Trod enc Tryz.prog W base sp held 43 (.slice a len cap) d ps) :
    ∃ zs : List Int, len = zs.length ∧ Ints W a zs ∧ zs.length ≤ maxLen := by
  obtain ⟨fuel, hf⟩ := h
  obtain ⟨sl, cap', zs, e, h1, h2⟩ := open_dom hf
  simp [Value.cells] at e
  obtain ⟨rfl, rfl, rfl⟩ := e
  exact ⟨zs, rfl, h1, h2⟩
end

end Go.Proofs.YtanoklpffenljaaGreatDoor
namespace Go.Proofs.YtanoklpffenljaaGreatDoor
open Go.RowKit Go.ChangeShapes Go.WideShapes
set_option linter.unusedVariables false

theorem cellsBd : Tryz.prog.cellsOf 95 = 3 := by kernel_rfl
theorem cells25 : Tryz.prog.cellsOf 25 = 2 := by kernel_rfl
theorem cells26 : Tryz.prog.cellsOf 26 = 1 := by kernel_rfl
theorem cells27 : Tryz.prog.cellsOf 27 = 1 := by kernel_rfl
theorem cells29k : Tryz.prog.cellsOf 29 = 8 := by kernel_rfl
theorem trod_struct7 {H : Type} {enc : TypeId × Value → H} {P : Program} {w : World} {base : Nat} {spare : Nat → Bool} {held : Bool} {t : TypeId} {f0 f1 f2 f3 f4 f5 f6 : Field} {fuel : Nat} {cs : List Value} {x : DataW H × List MemPlace} (ht : P.underlying t = some (.struct #[f0, f1, f2, f3, f4, f5, f6])) (h : DataW.trod enc P w base spare held fuel t cs = some x) :
    ∃ y0 y1 y2 y3 y4 y5 y6 n, cs.length = P.cellsOf t ∧ DataW.trod enc P w base spare held n f0.type ((cs.drop f0.offset).take (P.cellsOf f0.type)) = some y0 ∧
      DataW.trod enc P w base spare held n f1.type ((cs.drop f1.offset).take (P.cellsOf f1.type)) = some y1 ∧ DataW.trod enc P w base spare held n f2.type ((cs.drop f2.offset).take (P.cellsOf f2.type)) = some y2 ∧
      DataW.trod enc P w base spare held n f3.type ((cs.drop f3.offset).take (P.cellsOf f3.type)) = some y3 ∧ DataW.trod enc P w base spare held n f4.type ((cs.drop f4.offset).take (P.cellsOf f4.type)) = some y4 ∧
      DataW.trod enc P w base spare held n f5.type ((cs.drop f5.offset).take (P.cellsOf f5.type)) = some y5 ∧ DataW.trod enc P w base spare held n f6.type ((cs.drop f6.offset).take (P.cellsOf f6.type)) = some y6 := by
  obtain ⟨xs, n, _, rfl, hl, hlen, hf⟩ := DataW.trod_struct ht h
  match xs, hlen with
  | [y0, y1, y2, y3, y4, y5, y6], _ => exact ⟨y0, y1, y2, y3, y4, y5, y6, n, hl, by simpa using hf 0 f0 rfl, by simpa using hf 1 f1 rfl, by simpa using hf 2 f2 rfl, by simpa using hf 3 f3 rfl, by simpa using hf 4 f4 rfl, by simpa using hf 5 f5 rfl, by simpa using hf 6 f6 rfl⟩

section
variable {H : Type} {enc : TypeId × Value → H} {W : World} {base : Nat} {sp : Nat → Bool} {held : Bool}
theorem open_bd1 {fuel : Nat} {cs : List Value} {x : DataW H × List MemPlace} (h : DataW.trod enc Tryz.prog W base sp held fuel 95 cs = some x) :
    ∃ p : LPr, cs = [.int .i64 p.1, .int .i64 p.2.1, .int .i64 p.2.2] ∧ WfP p := by
  obtain ⟨y0, y1, y2, n, _, hl, f0, f1, f2⟩ := Go.Deep.trod_struct3 Tryz.underlying95 h
  rw [cellsBd] at hl
  obtain ⟨c0, c1, c2, rfl⟩ : ∃ c0 c1 c2, cs = [c0, c1, c2] := by
    rcases cs with _ | ⟨a, _ | ⟨b, _ | ⟨c, _ | ⟨d, r⟩⟩⟩⟩ <;> simp at hl
    exact ⟨a, b, c, rfl⟩
  simp only [cells2', List.drop_zero, List.take_succ_cons, List.take_zero, List.drop_succ_cons] at f0 f1 f2
  obtain ⟨a, ha, wa⟩ := open_i64 f0
  obtain ⟨b, hb, wb⟩ := open_i64 f1
  obtain ⟨c, hc, wc⟩ := open_i64 f2
  simp at ha hb hc
  exact ⟨(a, b, c), by rw [ha, hb, hc], ⟨wa, wb⟩, wc⟩
theorem open_bds {fuel : Nat} {cs : List Value} {x : DataW H × List MemPlace} (h : DataW.trod enc Tryz.prog W base sp held fuel 26 cs = some x) :
    ∃ sl cap ps, cs = [.slice sl (List.length ps) cap] ∧ Prs W sl ps ∧ ps.length ≤ maxLen ∧ ∀ p ∈ ps, WfP p := by
  rcases Go.Deep.open_slice Tryz.underlying26 h with ⟨rfl, _⟩ | ⟨a, len, cap, m, n, D, Pl, rfl, _, hl, hm, hmm, _, hx⟩
  · exact ⟨none, 0, [], rfl, .inl rfl, Nat.zero_le _, fun p hp => by cases hp⟩
  · have hlm : len ≤ m := by rw [hmm]; split <;> omega
    have each : ∀ i, i < len → ∃ p : LPr, W.cell? (a.add (i * 3)) = some (.int .i64 p.1) ∧ W.cell? (a.add (i * 3 + 1)) = some (.int .i64 p.2.1) ∧ W.cell? (a.add (i * 3 + 2)) = some (.int .i64 p.2.2) ∧ WfP p := by
      intro i hi
      obtain ⟨cs', h1, h2⟩ := hx i (by omega)
      rw [cellsBd] at h1
      obtain ⟨_, hlen, hcell⟩ := World.cells?_some h1
      obtain ⟨p, rfl, hw⟩ := open_bd1 h2
      have e0 := hcell 0 (by omega)
      have e1 := hcell 1 (by omega)
      have e2 := hcell 2 (by omega)
      rw [Go.Deep.add_add] at e0 e1 e2
      exact ⟨p, by simpa using e0, by simpa using e1, by simpa using e2, hw⟩
    obtain ⟨q, hq⟩ := Go.Deep.choose_lt each
    have hlen : ((List.range len).map q).length = len := by simp
    refine ⟨some a, cap, (List.range len).map q, by rw [hlen], ?_, by rw [hlen]; omega, fun p hp => ?_⟩
    · by_cases h0 : len = 0
      · subst h0; exact .inl rfl
      · obtain ⟨c, o, rfl, hcl⟩ := addr_none (hq 0 (by omega)).1
        refine .inr ⟨c, o, rfl, hcl, fun i hi => ?_⟩
        have hi' : i < len := by simpa using hi
        obtain ⟨a0, a1, a2, _⟩ := hq i hi'
        rw [add_at] at a0 a1 a2
        simp only [List.getElem_map, List.getElem_range]
        exact ⟨a0, by rw [Nat.add_assoc]; exact a1, by rw [Nat.add_assoc]; exact a2⟩
    · obtain ⟨i, hi, rfl⟩ := List.mem_map.1 hp
      exact (hq i (by simpa using hi)).2.2.2
theorem open_tab0 {fuel : Nat} {c0 c1 : Value} {x : DataW H × List MemPlace} (h : DataW.trod enc Tryz.prog W base sp held fuel 25 [c0, c1] = some x) :
    ∃ sl cap sl2 cap2 rs qs, c0 = .slice sl (List.length rs) cap ∧ c1 = .slice sl2 (List.length qs) cap2 ∧ InT W sl sl2 rs qs := by
  obtain ⟨y0, y1, n, hx, _, f0, f1⟩ := trod_struct2 Tryz.underlying25 h
  simp only [cells37, cells38, List.drop_zero, List.take_succ_cons, List.take_zero, List.drop_succ_cons] at f0 f1
  obtain ⟨sl, cap, rs, h0, hs, hl⟩ := open_sts f0
  obtain ⟨sl2, cap2, qs, h1, hp, hl2, hw⟩ := open_prs f1
  simp at h0 h1
  exact ⟨sl, cap, sl2, cap2, rs, qs, h0, h1, ⟨hs, hp, hw, hl, hl2⟩⟩
/-- A clock handed in. -/
theorem open_clk {a0 a1 a2 a3 a4 a5 a6 a7 : Value} {d : DataW H} {ps : List MemPlace} (h : DataW.Trod enc Tryz.prog W base sp held 29 (.agg #[a0, a1, a2, a3, a4, a5, a6, a7]) d ps) :
    ∃ sl cap tl kap top pr st bu bl cb pl cp rs qs bs ls, (Value.agg #[a0, a1, a2, a3, a4, a5, a6, a7]) = CV sl (List.length rs) cap tl (List.length qs) kap top pr st bu bl (List.length bs) cb pl (List.length ls) cp ∧ InC W sl tl bl pl rs qs bs ls ∧ (∀ p ∈ ls, WfL p) ∧ wfI top := by
  obtain ⟨fuel, hf⟩ := h
  obtain ⟨y0, y1, y2, y3, y4, y5, y6, n, _, f0, f1, f2, f3, f4, f5, f6⟩ := trod_struct7 Tryz.underlying29 hf
  simp only [Value.cells, cells25, cells26, cells27, cells2', List.drop_zero, List.take_succ_cons, List.take_zero, List.drop_succ_cons] at f0 f1 f2 f3 f4 f5 f6
  obtain ⟨sl, cap, tl, kap, rs, qs, h0, h0', hT⟩ := open_tab0 f0
  obtain ⟨top, h1, wtop⟩ := open_i64 f1
  obtain ⟨pr, h2, _⟩ := open_i64 f2
  obtain ⟨st, h3, _⟩ := open_i64 f3
  obtain ⟨bu, h4, _⟩ := open_i64 f4
  obtain ⟨bl, cb, bs, h5, hb, hlb, _⟩ := open_bds f5
  obtain ⟨pl, cp, ls, h6, hp, hlp, hwl⟩ := open_pls0 f6
  simp at h1 h2 h3 h4 h5 h6
  exact ⟨sl, cap, tl, kap, top, pr, st, bu, bl, cb, pl, cp, rs, qs, bs, ls, by rw [h0, h0', h1, h2, h3, h4, h5, h6], ⟨hT, hb, hp, hlb, hlp⟩, hwl, wtop⟩
end

end Go.Proofs.YtanoklpffenljaaGreatDoor
