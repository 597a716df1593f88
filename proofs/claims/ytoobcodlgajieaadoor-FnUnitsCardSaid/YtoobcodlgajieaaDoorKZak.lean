/-
  A TRAIL, DRAWN: l08Trail.
-/
import Derived.Test.YtoobcodlgajieaaDoorKXal
import Derived.Deep.CutRange
namespace Go.Proofs.YtoobcodlgajieaaDoor
open Go.RowKit
set_option linter.unusedVariables false
set_option linter.unusedSimpArgs false

/-- A trail that is being drawn, beside the source. -/
structure TS (w : World) (B b : Nat) (vars : Int) (vs : Option Addr) (n vk : Nat) (l : Value) (T : List Int) (W : World) : Prop where
  src : SrcB B W b
  only : Only b w W
  box : W.heap[w.heap.size]? = some (.cells #[.int .i64 vars, .slice vs n vk] 25)
  row : W.ownsRow (w.heap.size + 1) 2 1 l T.length (valsZ T)
  hB : b < B ∧ B ≤ w.heap.size
section
variable {w : World} {B b : Nat} {vars : Int} {vs : Option Addr} {n vk : Nat} {l : Value} {T : List Int} {W W' : World}
theorem TS.draw (h : TS w B b vars vs n vk l T W) (hs : SrcB B W' b) (ho : Only b W W') : TS w B b vars vs n vk l T W' := by
  have hb := h.hB
  exact ⟨hs, h.only.trans ho, (ho.block _ (Array.getElem?_eq_some_iff.1 h.box).1 (by omega)).trans h.box, own_onlyD h.row ho (by omega), h.hB⟩
theorem TS.cells (h : TS w B b vars vs n vk l T W) : w.heap.size < W.heap.size ∧ W.cell? ⟨w.heap.size, 0, none⟩ = some (.int .i64 vars) ∧ W.cell? ⟨w.heap.size, 1, none⟩ = some (.slice vs n vk) := by
  have ha := h.box
  exact ⟨(Array.getElem?_eq_some_iff.1 ha).1, by simp [World.cell?, ha], by simp [World.cell?, ha]⟩
theorem TS.app (h : TS w B b vars vs n vk l T W) (z : Int) (hl : T.length ≤ 1000) : ∃ s9 k9 w9, (∀ ty, (Builtin.append_ #[26, 26] ty #[l, .slice (some ⟨W.heap.size, 0, none⟩) 1 1]).run Tryd.prog (W.alloc (.cells #[.int .i64 z] 2)) = .ok (.slice s9 (T ++ [z]).length k9) w9) ∧ TS w B b vars vs n vk (.slice s9 (T ++ [z]).length k9) (T ++ [z]) w9 := by
  have hb := h.hB
  have hc := h.cells.1
  have HA := own_below h.row (bA0 W (.cells #[.int .i64 z] 2))
  obtain ⟨v9, w9, ha, ow, gr, hj⟩ := appZ HA 1 (ints_new W z) (by simp; omega) (by simp; omega)
  obtain ⟨s9, k9, rfl⟩ := own_v ow
  have lo : ∀ j, l.ownBlock = some j → w.heap.size + 1 ≤ j := fun j hj => (HA.lt j hj).1
  have hbx := ((bA0 W (.cells #[.int .i64 z] 2)).block _ hc).trans h.box
  refine ⟨s9, k9, w9, ha, (h.src.below (bA0 _ _)).grown gr (fun g hg => by have := lo g hg; omega), (h.only.trans (Only.of_below (bA0 _ _))).grown gr (fun g hg => by have := lo g hg; omega), ?_, ow, h.hB⟩
  exact (gr.block _ (Array.getElem?_eq_some_iff.1 hbx).1 (fun e => by have := lo _ e.symm; omega)).trans hbx
/-- What a drawn trail is. -/
def LtP (B b : Nat) (w : World) (e : Ending) (w' : World) : Prop := ∃ (s : Option Addr) (k : Nat) (T : List Int), e = .returned (.slice s T.length k) ∧ w'.ownsRow (w.heap.size + 1) 2 1 (.slice s T.length k) T.length (valsZ T) ∧ T.length ≤ 101 ∧ (∀ z ∈ T, -100 ≤ z ∧ z ≤ 100) ∧ SrcB B w' b ∧ Only b w w'
theorem TS.fin {s : Option Addr} {k : Nat} (h : TS w B b vars vs n vk (.slice s T.length k) T W) (h1 : T.length ≤ 101) (h2 : ∀ z ∈ T, -100 ≤ z ∧ z ≤ 100) : LtP B b w (.returned (.slice s T.length k)) W := ⟨s, k, T, rfl, h.row, h1, h2, h.src, h.only⟩
end

set_option maxRecDepth 100000 in
set_option maxHeartbeats 4000000 in
/-- spec.l08Trail. -/
theorem ltrl_any (B b : Nat) (vars : Int) (vs : Option Addr) (n vk : Nat) (w : World) (hs : SrcB B w b) :
    Calls Tryd.prog 47 #[.pointer (some ⟨b, 0, none⟩), CV vars vs n vk] w (LtP B b w) := by
  have hb := hs.1
  have hB := hs.2.1
  have S0 : Hid (TS w B b vars vs n vk (.slice (some ⟨w.heap.size + 1, 0, none⟩) 0 0) [] ((w.alloc (.cells #[.int .i64 vars, .slice vs n vk] 25)).alloc (.cells #[] 2))) := by
    have hz : (w.alloc (.cells #[.int .i64 vars, .slice vs n vk] 25)).heap.size = w.heap.size + 1 := by simp
    have O := own_none8 (w.alloc (.cells #[.int .i64 vars, .slice vs n vk] 25))
    rw [hz] at O
    have b0 := bA0 w (.cells #[.int .i64 vars, .slice vs n vk] 25)
    have b1 := bA b0 (.cells #[] 2)
    have N := new_at w (.cells #[.int .i64 vars, .slice vs n vk] 25)
    exact ⟨hs.below b1, Only.of_below b1, ((bA0 _ (.cells #[] 2)).block _ (Array.getElem?_eq_some_iff.1 N).1).trans N, O, ⟨hb, hB⟩⟩
  clear hs
  go_enter Tryd.func47, Tryd.ntmps47
  go_wp2
  generalize (w.alloc (.cells #[.int .i64 vars, .slice vs n vk] 25)).alloc (.cells #[] 2) = w2 at *
  go_loopw [5, 6] (fun l i wr => ∃ (q : Nat) (y : Int) (T : List Int), i = .int .i64 y ∧ Hid (y = (q : Int) + 1 ∧ T.length ≤ q ∧ q ≤ 100 ∧ ∀ z ∈ T, -100 ≤ z ∧ z ≤ 100) ∧ Hid (TS w B b vars vs n vk l T wr)) (fun _ i _ => (139 - intOf i).toNat)
  case atStart =>
    exact ⟨0, 1, [], rfl, ⟨by omega, by simp, by omega, fun z hz => by cases hz⟩, S0⟩
  case round =>
    obtain ⟨q, y, T, rfl, HQ, G1⟩ := hrel
    obtain ⟨sl, lk, rfl⟩ := own_v G1.out.row
    obtain ⟨f1, f2, f3⟩ := G1.out.cells
    have hy0 : 1 ≤ y := by have := HQ.out.1; omega
    clear S0
    by_cases c1 : y ≤ vars
    · by_cases c2 : y ≤ 100
      · have hwy : wrap64 (y + 1) = y + 1 := wrap_in _ ⟨by omega, by omega⟩
        go_wp2_with fail
        refine (oneB_any B b 4 wr (by decide) G1.out.src).mono ?_
        rintro e w1 ⟨t, rfl, s1, o1⟩
        have G2 := Lib.hid (G1.out.draw s1 o1)
        clear s1 o1 f1 f2 f3
        cases t with
        | true =>
          go_wp2_with fail
          refine (nB_lt B b 2 _ (by decide) (by decide) G2.out.src).mono ?_
          rintro e w2 ⟨r, rfl, r0, r1, s2, o2⟩
          have G3 := Lib.hid (G2.out.draw s2 o2)
          clear s2 o2
          have hr2 : r = 0 ∨ r = 1 := by omega
          rcases hr2 with rfl | rfl
          · clear r0 r1
            obtain ⟨s9, k9, w9, ha, G9⟩ := G3.out.app (y) (by have := HQ.out.2.1; have := HQ.out.2.2.1; omega)
            have REL : Hid (∃ (q : Nat) (y' : Int) (T' : List Int), Value.int .i64 (y + 1) = .int .i64 y' ∧ Hid (y' = (q : Int) + 1 ∧ T'.length ≤ q ∧ q ≤ 100 ∧ ∀ z ∈ T', -100 ≤ z ∧ z ≤ 100) ∧ Hid (TS w B b vars vs n vk (.slice s9 (T ++ [y]).length k9) T' w9)) := ⟨q + 1, _, _, rfl, ⟨by have := HQ.out.1; omega, by have := HQ.out.2.1; simp; omega, by have := HQ.out.1; omega, fun x hx => by
              rcases List.mem_append.1 hx with h | h
              · exact HQ.out.2.2.2 x h
              · rw [List.mem_singleton.1 h]; omega⟩, G9⟩
            have MES : Hid ((139 - (y + 1)).toNat < (139 - y).toNat) := by show _ < _; omega
            have ha' := ha 26
            clear ha G9 G3 G2 G1 HQ
            generalize (T ++ [y]).length = tn9 at *
            generalize T.length = tn at *
            go_wp2_with (at_builtin; refine Lib.wpList_append_run _ rfl _ _ _ _ rfl _ _ rfl rfl _ _ ha' ?_)
            try rw [hwy]
            exact ⟨REL.out, MES.out⟩
          · clear r0 r1
            have hny : wrap64 (-y) = -y := wrap_in _ ⟨by omega, by omega⟩
            have hny2 : wrap64 (y * -1) = -y := by rw [show y * -1 = -y by omega]; exact hny
            obtain ⟨s9, k9, w9, ha, G9⟩ := G3.out.app (-y) (by have := HQ.out.2.1; have := HQ.out.2.2.1; omega)
            have REL : Hid (∃ (q : Nat) (y' : Int) (T' : List Int), Value.int .i64 (y + 1) = .int .i64 y' ∧ Hid (y' = (q : Int) + 1 ∧ T'.length ≤ q ∧ q ≤ 100 ∧ ∀ z ∈ T', -100 ≤ z ∧ z ≤ 100) ∧ Hid (TS w B b vars vs n vk (.slice s9 (T ++ [-y]).length k9) T' w9)) := ⟨q + 1, _, _, rfl, ⟨by have := HQ.out.1; omega, by have := HQ.out.2.1; simp; omega, by have := HQ.out.1; omega, fun x hx => by
              rcases List.mem_append.1 hx with h | h
              · exact HQ.out.2.2.2 x h
              · rw [List.mem_singleton.1 h]; omega⟩, G9⟩
            have MES : Hid ((139 - (y + 1)).toNat < (139 - y).toNat) := by show _ < _; omega
            have ha' := ha 26
            clear ha G9 G3 G2 G1 HQ
            generalize (T ++ [-y]).length = tn9 at *
            generalize T.length = tn at *
            go_wp2_with (at_builtin; refine Lib.wpList_append_run _ rfl _ _ _ _ rfl _ _ rfl rfl _ _ ha' ?_)
            try rw [hwy]
            exact ⟨REL.out, MES.out⟩
        | false =>
          have REL : Hid (∃ (q : Nat) (y' : Int) (T' : List Int), Value.int .i64 (y + 1) = .int .i64 y' ∧ Hid (y' = (q : Int) + 1 ∧ T'.length ≤ q ∧ q ≤ 100 ∧ ∀ z ∈ T', -100 ≤ z ∧ z ≤ 100) ∧ Hid (TS w B b vars vs n vk (.slice sl T.length lk) T' w1)) := ⟨q + 1, _, T, rfl, ⟨by have := HQ.out.1; omega, by have := HQ.out.2.1; omega, by have := HQ.out.1; omega, HQ.out.2.2.2⟩, G2⟩
          have MES : Hid ((139 - (y + 1)).toNat < (139 - y).toNat) := by show _ < _; omega
          clear G1 G2 HQ
          generalize T.length = tn at *
          go_wp2
          try rw [hwy]
          exact ⟨REL.out, MES.out⟩
      · clear hy0
        go_wp2_with fail
        refine (oneB_any B b 20 wr (by decide) G1.out.src).mono ?_
        rintro e w4 ⟨t, rfl, s4, o4⟩
        have G4 := Lib.hid (G1.out.draw s4 o4)
        clear s4 o4
        cases t with
        | true =>
          go_wp2_with fail
          refine (nB_lt B b 9 _ (by decide) (by decide) G4.out.src).mono ?_
          rintro e w5 ⟨r, rfl, r0, r1, s5, o5⟩
          have G5 := Lib.hid (G4.out.draw s5 o5)
          clear s5 o5
          have hw4 : wrap64 (r - 4) = r - 4 := wrap_in _ ⟨by omega, by omega⟩
          obtain ⟨s9, k9, w9, ha, G9⟩ := G5.out.app (r - 4) (by have := HQ.out.2.1; have := HQ.out.2.2.1; omega)
          have P := Lib.hid (G9.fin (by have := HQ.out.2.1; have := HQ.out.2.2.1; simp; omega) (fun z hz => by
            rcases List.mem_append.1 hz with h | h
            · exact HQ.out.2.2.2 z h
            · rw [List.mem_singleton.1 h]; omega))
          have ha' := ha 26
          clear ha G9 G5 G4 HQ
          generalize (T ++ [r - 4]).length = tn9 at *
          generalize T.length = tn at *
          go_wp2_with (at_builtin; refine Lib.wpList_append_run _ rfl _ _ _ _ rfl _ _ rfl rfl _ _ ha' ?_)
          go_ret
          exact P.out
        | false =>
          have P := Lib.hid (G4.out.fin (by have := HQ.out.2.1; have := HQ.out.2.2.1; omega) HQ.out.2.2.2)
          clear G4 HQ
          generalize T.length = tn at *
          go_wp2
          go_ret
          exact P.out
    · clear hy0
      go_wp2_with fail
      refine (oneB_any B b 20 wr (by decide) G1.out.src).mono ?_
      rintro e w4 ⟨t, rfl, s4, o4⟩
      have G4 := Lib.hid (G1.out.draw s4 o4)
      clear s4 o4
      cases t with
      | true =>
        go_wp2_with fail
        refine (nB_lt B b 9 _ (by decide) (by decide) G4.out.src).mono ?_
        rintro e w5 ⟨r, rfl, r0, r1, s5, o5⟩
        have G5 := Lib.hid (G4.out.draw s5 o5)
        clear s5 o5
        have hw4 : wrap64 (r - 4) = r - 4 := wrap_in _ ⟨by omega, by omega⟩
        obtain ⟨s9, k9, w9, ha, G9⟩ := G5.out.app (r - 4) (by have := HQ.out.2.1; have := HQ.out.2.2.1; omega)
        have P := Lib.hid (G9.fin (by have := HQ.out.2.1; have := HQ.out.2.2.1; simp; omega) (fun z hz => by
          rcases List.mem_append.1 hz with h | h
          · exact HQ.out.2.2.2 z h
          · rw [List.mem_singleton.1 h]; omega))
        have ha' := ha 26
        clear ha G9 G5 G4 HQ
        generalize (T ++ [r - 4]).length = tn9 at *
        generalize T.length = tn at *
        go_wp2_with (at_builtin; refine Lib.wpList_append_run _ rfl _ _ _ _ rfl _ _ rfl rfl _ _ ha' ?_)
        go_ret
        exact P.out
      | false =>
        have P := Lib.hid (G4.out.fin (by have := HQ.out.2.1; have := HQ.out.2.2.1; omega) HQ.out.2.2.2)
        clear G4 HQ
        generalize T.length = tn at *
        go_wp2
        go_ret
        exact P.out

end Go.Proofs.YtoobcodlgajieaaDoor
