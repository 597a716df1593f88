/-
  LISTS OF NUMBERS: how they lie, that all are in bounds, how they are copied and held against each other.
  LISTS THAT RISE, a station that is right, an Id among others.
  HOW A TABLE LIES: its stations and pairs; an Id is sought.
  AN ID IS SOUGHT IN A TABLE; the Ids as they stand.
  THE IDS AS THEY STAND, as the program gathers them.
  THE LAWS' TABLES: their sizes.
  THE LAWS' TABLES: copied into tables of the program.
  THE LAWS' CLAUSES: how they lie; their size; copied, held against each other.
  CLAUSES THAT ARE OWNED: a row of slices, each with a row of its own; grown by one, put behind others.
  THE LITERALS OF A CLAUSE, told one by one.
  IS A CLAUSE RIGHT? impl.clauseRight.
  THE LAWS' CLAUSES copied into a Cnf; are clauses right? As both sides answer it.
  WHEN A TABLE IS RIGHT: the thinking.
-/
import Derived.Test.YtoobcodlgajieaaDoorVad
import Derived.Test.YtoobcodlgajieaaDoorPt
import Derived.Test.YtoobcodlgajieaaDoorVac
import Derived.Test.YtoobcodlgajieaaDoorVab
import Derived.Test.YtoobcodlgajieaaDoorVaa
import Derived.Test.YtoobcodlgajieaaDoorRows
import Derived.WalkKit
import Derived.WalkSpells
import Derived.WalkLawsBesides
import Derived.Laws.EntriesVeiled
import Derived.Deep.QuietTactic
import Derived.BigQuiet
import Derived.Lib.Hide
import Derived.Laws.AppendOwn
import Derived.Deep.AppendLies
import Derived.WalkSmall
import Derived.OwnWalk
import Derived.Deep.RegionHeldLaw
import Derived.Lib.AppendZerosOnto
import Derived.Deep.Upon
import Derived.RangeFuncNested
import Derived.RangeFuncBound
import Derived.RangeFuncCalls
import Derived.RangeFuncLeaves
import Derived.RangeFuncBox
import Derived.Shelf.Abstract
import Derived.Shelf.RegionOpen
import Derived.OwnWalkIn
import Derived.TacticsInMore
import Derived.LoopNIn
import Derived.LoopIn
import Derived.Maps.AppendAt
namespace Go.Proofs.YtoobcodlgajieaaDoor
open Go.RowKit
set_option linter.unusedVariables false

theorem vs_size (zs : List Int) (k : Nat) (h : k ≤ zs.length) : (vsOf zs k).size = zs.length := by simp [vsOf]; omega
theorem vs_step (zs : List Int) (k : Nat) (h : k < zs.length) : (vsOf zs k).setIfInBounds k (.int .i64 (zs.getD k 0)) = vsOf zs (k + 1) := by
  apply Array.ext
  · simp [vsOf]; omega
  · intro i h1 h2
    simp only [Array.size_setIfInBounds] at h1
    rw [Array.getElem_setIfInBounds h1]
    simp only [vsOf, List.getElem_toArray]
    by_cases hi : k = i
    · subst hi
      rw [if_pos rfl, List.getElem_append_left (by simp; omega)]
      simp [h]
    · rw [if_neg hi]
      by_cases hlt : i < k
      · rw [List.getElem_append_left (by simp; omega), List.getElem_append_left (by simp; omega)]
        simp
      · rw [List.getElem_append_right (by simp; omega), List.getElem_append_right (by simp; omega)]
        simp
theorem vs_at (zs : List Int) (k : Nat) (h : k < zs.length) : (vsOf zs k)[k]? = some (.int .i64 0) := by
  rw [Array.getElem?_eq_getElem (by rw [vs_size zs k (by omega)]; exact h)]
  simp only [vsOf, List.getElem_toArray]
  rw [List.getElem_append_right (by simp; omega)]
  simp
theorem vs_all (zs : List Int) (k : Nat) (hk : zs.length ≤ k) (i : Nat) (h : i < zs.length) : (vsOf zs k)[i]? = some (.int .i64 (zs.getD i 0)) := by
  rw [Array.getElem?_eq_getElem (by simp [vsOf]; omega)]
  simp only [vsOf, List.getElem_toArray]
  rw [List.getElem_append_left (by simp; omega)]
  simp [h]
theorem RowAt.ints {w : World} {b : Nat} {zs : List Int} {k : Nat} (h : RowAt w b (vsOf zs k)) (hk : zs.length ≤ k) : IntsAt w b 0 zs :=
  ⟨h.lt, fun i hi => by rw [Nat.zero_add, h.cell i]; exact vs_all zs k hk i hi⟩

set_option maxHeartbeats 400000 in
theorem eq_nil (sl sl2 : Option Addr) (cap cap2 : Nat) (w : World) :
    Calls Tryd.prog 31 #[.slice sl 0 cap, .slice sl2 0 cap2] w fun e w' => e = .returned (.bool true) ∧ Below w.heap.size w w' := by
  go_enter Tryd.func31, Tryd.ntmps31
  go_wp2
  refine wp_loop_rounds 1 ?_
  rw [rounds_succ]
  go_wp2
  go_ret
  exact ⟨rfl, Below.refl _ _⟩

set_option maxHeartbeats 1000000 in
theorem eq_some (c o cap c2 o2 cap2 : Nat) (zs : List Int) (w : World) (hn : zs.length ≤ maxLen) (hz : IntsAt w c o zs) (hz2 : IntsAt w c2 o2 zs) :
    Calls Tryd.prog 31 #[.slice (some ⟨c, o, none⟩) zs.length cap, .slice (some ⟨c2, o2, none⟩) zs.length cap2] w fun e w' => e = .returned (.bool true) ∧ Below w.heap.size w w' := by
  unfold maxLen at hn
  have HZ : Hid (IntsAt w c o zs ∧ IntsAt w c2 o2 zs) := ⟨hz, hz2⟩
  clear hz hz2
  generalize hN : zs.length = n at *
  have HN : Hid (zs.length = n) := hN
  clear hN
  go_enter Tryd.func31, Tryd.ntmps31
  go_wp2
  go_loopw [5] (fun i wr => ∃ (k : Nat), i = .int .i64 k ∧ k ≤ n ∧ Hid (Below w.heap.size w wr)) (fun i _ => n - (intOf i).toNat)
  case atStart => exact ⟨0, rfl, Nat.zero_le _, Below.refl _ _⟩
  case round =>
    obtain ⟨k, rfl, hk, H3⟩ := hrel
    have hk0 : (0 : Int) ≤ (k : Int) := by omega
    by_cases h1 : k < n
    · have h1' : (k : Int) < (n : Int) := by omega
      have hlt : k < zs.length := by rw [HN.out]; exact h1
      have hc : wr.cell? ⟨c, o + k, none⟩ = some (.int .i64 (zs.getD k 0)) := by
        rw [H3.out.cell HZ.out.1.1]; exact HZ.out.1.2 k hlt
      have hd : wr.cell? ⟨c2, o2 + k, none⟩ = some (.int .i64 (zs.getD k 0)) := by
        rw [H3.out.cell HZ.out.2.1]; exact HZ.out.2.2 k hlt
      clear hlt
      generalize zs.getD k 0 = z at *
      go_wp2
      go_quiet (fail)
      go_wp2
      go_roundw
      case rel => exact ⟨k + 1, by go_num, by omega, below_drewN H3.out _⟩
      case measure => simp [intOf]; omega
    · have h1' : ¬ (k : Int) < (n : Int) := by omega
      go_wp2
      go_ret
      exact ⟨rfl, H3.out⟩

theorem eq_any (sl sl2 : Option Addr) (cap cap2 : Nat) (zs : List Int) (w : World) (hn : zs.length ≤ maxLen) (hz : Ints w sl zs) (hz2 : Ints w sl2 zs) :
    Calls Tryd.prog 31 #[.slice sl zs.length cap, .slice sl2 zs.length cap2] w fun e w' => e = .returned (.bool true) ∧ Below w.heap.size w w' := by
  rcases hz with rfl | ⟨c, o, rfl, h⟩
  · exact eq_nil sl sl2 cap cap2 w
  · rcases hz2 with rfl | ⟨c2, o2, rfl, h2⟩
    · exact eq_nil _ sl2 cap cap2 w
    · exact eq_some c o cap c2 o2 cap2 zs w hn h h2

end Go.Proofs.YtoobcodlgajieaaDoor
namespace Go.Proofs.YtoobcodlgajieaaDoor
open Go.RowKit
set_option linter.unusedVariables false

end Go.Proofs.YtoobcodlgajieaaDoor
namespace Go.Proofs.YtoobcodlgajieaaDoor
open Go.RowKit
set_option linter.unusedVariables false

end Go.Proofs.YtoobcodlgajieaaDoor
namespace Go.Proofs.YtoobcodlgajieaaDoor
open Go.RowKit
set_option linter.unusedVariables false

/-- A table in a block of its own. -/
def TabAtD (w : World) (b : Nat) (sl : Option Addr) (n cap : Nat) (sl2 : Option Addr) (m cap2 : Nat) : Prop := w.heap[b]? = some (.cells #[.slice sl n cap, .slice sl2 m cap2] 97)
theorem TabAtD.new (w : World) (sl : Option Addr) (n cap : Nat) (sl2 : Option Addr) (m cap2 : Nat) : TabAtD (w.alloc (.cells #[.slice sl n cap, .slice sl2 m cap2] 97)) w.heap.size sl n cap sl2 m cap2 := by
  show (w.heap.push _)[w.heap.size]? = _
  simp
end Go.Proofs.YtoobcodlgajieaaDoor
namespace Go.Proofs.YtoobcodlgajieaaDoor
open Go.RowKit
set_option linter.unusedVariables false

end Go.Proofs.YtoobcodlgajieaaDoor
namespace Go.Proofs.YtoobcodlgajieaaDoor
open Go.RowKit
set_option linter.unusedVariables false

/-- What is left. -/
def lft (m : Int) (n : Nat) : Int := if m - n < 0 then -1 else m - n
set_option maxHeartbeats 400000 in
theorem szI_any (sl : Option Addr) (n cap : Nat) (m : Int) (w : World) (hn : n ≤ maxLen) (h0 : 0 ≤ m) (h1 : m ≤ 1048576) :
    Calls Tryd.prog 66 #[.slice sl n cap, .int .i64 m] w fun e w' => e = .returned (.int .i64 (lft m n)) ∧ Below w.heap.size w w' := by
  unfold maxLen at hn
  unfold lft
  by_cases h : m - n < 0
  · rw [if_pos h]
    go_enter Tryd.func66, Tryd.ntmps66
    go_wp2
    go_ret
    exact ⟨rfl, Below.refl _ _⟩
  · rw [if_neg h]
    go_enter Tryd.func66, Tryd.ntmps66
    go_wp2
    go_ret
    exact ⟨rfl, Below.refl _ _⟩
theorem lft_cases (m : Int) (n : Nat) (h0 : 0 ≤ m) : (lft m n = -1 ∧ m < n) ∨ (lft m n = m - n ∧ (n : Int) ≤ m) := by
  unfold lft
  split <;> omega

end Go.Proofs.YtoobcodlgajieaaDoor
namespace Go.Proofs.YtoobcodlgajieaaDoor
open Go.RowKit
set_option linter.unusedVariables false

theorem Row3.there {w : World} {b : Nat} {t : TypeId} {n : Nat} {ts : List (Value × Value × Value)} (h : Row3 w b t n ts) (j : Nat) (hj : j < n * 3) : (∃ v, w.cell? ⟨b, j, none⟩ = some v) ∧ w.frozen? ⟨b, j, none⟩ = false := by
  obtain ⟨vs, h1, h2, h3⟩ := h
  exact ⟨⟨vs[j]'(by omega), by simp [World.cell?, h1, show j < vs.size by omega]⟩, by simp [World.frozen?, h1]⟩
theorem DomOut.din {b : Nat} {w : World} {r : LSt} (h : DomOut b w r) : DomIn w r := by
  obtain ⟨g, e, hi, hg, hl⟩ := h
  exact ⟨_, _, e, hi, hl⟩

theorem DomOut.setLow {b : Nat} {w : World} {r : LSt} (h : DomOut b w r) {b' : Nat} (hb : b' < b) (i : Nat) (v : Value) : DomOut b (w.setCell ⟨b', i, none⟩ v) r := by
  obtain ⟨g, e, hi, hg, hl⟩ := h
  exact ⟨g, e, hi.set (by omega) i v, hg, hl⟩
theorem Row3.setLow {w : World} {b : Nat} {t : TypeId} {n : Nat} {ts : List (Value × Value × Value)} (h : Row3 w b t n ts) {b' : Nat} (hb : b' < b) (i : Nat) (v : Value) : Row3 (w.setCell ⟨b', i, none⟩ v) b t n ts := by
  obtain ⟨vs, h1, h2, h3⟩ := h
  exact ⟨vs, (Below.heap_setCell _ _ _ _ (show b ≠ b' by omega)).trans h1, h2, h3⟩
theorem three_new (w : World) (o0 o1 o2 : Obj) : (((w.alloc o0).alloc o1).alloc o2).heap[w.heap.size]? = some o0 ∧ (((w.alloc o0).alloc o1).alloc o2).heap[w.heap.size + 1]? = some o1 ∧ (((w.alloc o0).alloc o1).alloc o2).heap[w.heap.size + 2]? = some o2 ∧ (((w.alloc o0).alloc o1).alloc o2).heap.size = w.heap.size + 3 := by
  have s1 : (w.alloc o0).heap.size = w.heap.size + 1 := by simp
  have s2 : ((w.alloc o0).alloc o1).heap.size = w.heap.size + 2 := by simp
  have a1 := new_at (w.alloc o0) o1
  rw [s1] at a1
  have a2 := new_at ((w.alloc o0).alloc o1) o2
  rw [s2] at a2
  exact ⟨(Below.heap_alloc _ _ _ (by rw [s2]; omega)).trans ((Below.heap_alloc _ _ _ (by rw [s1]; omega)).trans (new_at w o0)), (Below.heap_alloc _ _ _ (by rw [s2]; omega)).trans a1, a2, by simp⟩
end Go.Proofs.YtoobcodlgajieaaDoor
namespace Go.Proofs.YtoobcodlgajieaaDoor
open Go.RowKit
set_option linter.unusedVariables false

theorem bareC_len {a b : List LCl} (h : bareC a = bareC b) : a.length = b.length := by have := congrArg List.length h; simpa [bareC] using this
theorem totC_add (a b : List LCl) : totC (a ++ b) = totC a + totC b := by simp [totC]
theorem totC_take (cs : List LCl) (k : Nat) (h : k < cs.length) : totC (cs.take (k + 1)) = totC (cs.take k) + cs[k].2.length := by
  rw [show cs.take (k + 1) = cs.take k ++ [cs[k]] by rw [List.take_add_one, List.getElem?_eq_getElem h]; rfl, totC_add]
  rfl
theorem totC_le (cs : List LCl) (k : Nat) : totC (cs.take k) ≤ totC cs := by
  have := congrArg totC (List.take_append_drop k cs)
  rw [totC_add] at this
  omega
set_option maxRecDepth 100000 in
set_option maxHeartbeats 1000000 in
/-- szInt64SS. -/
theorem szL_any (sl : Option Addr) (cap : Nat) (cs : List LCl) (m : Int) (w : World) (hn : cs.length ≤ maxLen) (h0 : 0 ≤ m) (h1 : m ≤ 1048576) (hz : Cls w sl cs) :
    Calls Tryd.prog 24 #[.slice sl cs.length cap, .int .i64 m] w fun e w' => e = .returned (.int .i64 (lft m (cs.length + totC cs))) ∧ Below w.heap.size w w' := by
  unfold maxLen at hn
  have HZ := Lib.hid hz
  clear hz
  generalize hN : cs.length = n at *
  have HN := Lib.hid hN
  clear hN
  by_cases hs : m - (n : Int) < 0
  · have F := Lib.hid (show lft m (n + totC cs) = -1 by unfold lft; rw [if_pos]; omega)
    go_enter Tryd.func24, Tryd.ntmps24
    go_wp2
    go_ret
    exact ⟨by rw [F.out]; rfl, Below.refl _ _⟩
  · go_enter Tryd.func24, Tryd.ntmps24
    go_wp2
    go_loopw [1, 5] (fun l i wr => ∃ k : Nat, i = .int .i64 k ∧ k ≤ n ∧ l = .int .i64 (m - n - (totC (cs.take k) : Nat)) ∧ (n : Int) + (totC (cs.take k) : Nat) ≤ m ∧ Hid (Below w.heap.size w wr)) (fun _ i _ => n - (intOf i).toNat)
    case atStart => exact ⟨0, rfl, Nat.zero_le _, by simp [totC], by simp [totC]; omega, Below.refl _ _⟩
    case round =>
      obtain ⟨k, rfl, hk, rfl, hle, H2⟩ := hrel
      have hk0 : (0 : Int) ≤ (k : Int) := by omega
      by_cases c1 : k < n
      · have c1' : (k : Int) < (n : Int) := by omega
        have hlt : k < cs.length := by rw [HN.out]; exact c1
        obtain ⟨c, o, rfl, Z0⟩ := HZ.out.at hlt
        have hc := (Z0.below H2.out).2 k hlt
        obtain ⟨sld, capd, ed, -, hdl⟩ := HZ.out.each cs[k] (List.getElem_mem hlt)
        rw [ed] at hc
        have E := Lib.hid (fun W => szI_any sld cs[k].2.length capd (m - n - (totC (cs.take k) : Nat)) W hdl (by omega) (by omega))
        have T1 := Lib.hid (totC_take cs k hlt)
        have T2 := Lib.hid (totC_le cs (k + 1))
        clear Z0 ed
        generalize cs[k].2.length = q at *
        clear hlt
        unfold maxLen at hdl
        rcases lft_cases (m - n - (totC (cs.take k) : Nat)) q (by omega) with ⟨e, h⟩ | ⟨e, h⟩
        · rw [e] at E
          have F := Lib.hid (show lft m (n + totC cs) = -1 by
            have := T1.out
            have := T2.out
            unfold lft; rw [if_pos]; omega)
          clear T1 T2
          generalize totC (cs.take k) = tk at *
          go_wp2_with fail
          refine (E.out _).mono ?_
          rintro e w5 ⟨rfl, b5⟩
          have D5 := Lib.hid (bT H2.out b5)
          clear b5
          go_wp2
          go_ret
          exact ⟨by rw [F.out]; rfl, D5.out⟩
        · rw [e] at E
          have T3 := T1.out
          clear T1 T2
          have TT : Hid (totC (cs.take (k + 1)) = totC (cs.take k) + q) := T3
          clear T3
          generalize totC (cs.take k) = tk at *
          have hpos : ¬ (m - n - tk - q) < 0 := by omega
          go_wp2_with fail
          refine (E.out _).mono ?_
          rintro e w5 ⟨rfl, b5⟩
          have D5 := Lib.hid (bT H2.out b5)
          clear b5
          go_wp2_with fail
          go_roundw
          case rel => exact ⟨k + 1, by go_num, by omega, by rw [TT.out]; congr 1; omega, by rw [TT.out]; omega, D5⟩
          case measure => simp [intOf]; omega
      · have c1' : ¬ (k : Int) < (n : Int) := by omega
        have F := Lib.hid (show lft m (n + totC cs) = m - n - (totC (cs.take k) : Nat) by
          have e : cs.take k = cs := List.take_of_length_le (by rw [HN.out]; omega)
          rw [e] at hle ⊢
          unfold lft; rw [if_neg] <;> omega)
        go_wp2
        go_ret
        exact ⟨by rw [F.out]; rfl, H2.out⟩

set_option maxRecDepth 100000 in
set_option maxHeartbeats 1000000 in
/-- szCnf. -/
theorem szC_any (vars : Int) (sl : Option Addr) (cap : Nat) (cs : List LCl) (w : World) (hn : cs.length ≤ maxLen) (hz : Cls w sl cs) :
    Calls Tryd.prog 23 #[CV vars sl cs.length cap, .int .i64 1048576] w fun e w' => e = .returned (.int .i64 (lft 1048576 (cs.length + totC cs))) ∧ Below w.heap.size w w' := by
  have E := Lib.hid (szL_any sl cap cs 1048576 (w.alloc (.cells #[.int .i64 vars, .slice sl cs.length cap] 45)) hn (by omega) (by omega) (hz.below (bA0 _ _)))
  have B0 := Lib.hid (bA0 w (.cells #[.int .i64 vars, .slice sl cs.length cap] 45))
  have LC := lft_cases 1048576 (cs.length + totC cs) (by omega)
  clear hz
  generalize cs.length + totC cs = s at *
  generalize cs.length = n at *
  rcases LC with ⟨e, h⟩ | ⟨e, h⟩
  · rw [e] at E ⊢
    clear e
    go_enter Tryd.func23, Tryd.ntmps23
    go_wp2_with fail
    refine E.out.mono ?_
    rintro e w1 ⟨rfl, b1⟩
    have D1 := Lib.hid (bT B0.out b1)
    clear b1
    go_wp2
    go_ret
    exact ⟨rfl, D1.out⟩
  · rw [e] at E ⊢
    have hneg : ¬ (1048576 - (s : Int)) < 0 := by omega
    clear e
    generalize (1048576 - (s : Int)) = z at *
    go_enter Tryd.func23, Tryd.ntmps23
    go_wp2_with fail
    refine E.out.mono ?_
    rintro e w1 ⟨rfl, b1⟩
    have D1 := Lib.hid (bT B0.out b1)
    clear b1
    go_wp2
    go_ret
    exact ⟨rfl, D1.out⟩

theorem RowV.there {w : World} {b n : Nat} {ts : List Value} (h : RowV w b n ts) (j : Nat) (hj : j < n) : (∃ v, w.cell? ⟨b, j, none⟩ = some v) ∧ w.frozen? ⟨b, j, none⟩ = false := by
  obtain ⟨vs, h1, h2, h3⟩ := h
  exact ⟨⟨vs[j]'(by omega), by simp [World.cell?, h1, show j < vs.size by omega]⟩, by simp [World.frozen?, h1]⟩
theorem RowV.setLow {w : World} {b n : Nat} {ts : List Value} (h : RowV w b n ts) {b' : Nat} (hb : b' < b) (i : Nat) (v : Value) : RowV (w.setCell ⟨b', i, none⟩ v) b n ts := by
  obtain ⟨vs, h1, h2, h3⟩ := h
  exact ⟨vs, (Below.heap_setCell _ _ _ _ (show b ≠ b' by omega)).trans h1, h2, h3⟩
theorem make40 (n : Nat) (h : n ≤ 1048576) (w : World) :
    ∃ vs : Array Value, Sem.run Tryd.prog (Instr.makeSlice 23 (.int .i64 (n : Int)) (.int .i64 (n : Int))) w = .ok (.slice (some ⟨w.heap.size, 0, none⟩) n n) (w.alloc (.cells vs 26)) ∧ RowV (w.alloc (.cells vs 26)) w.heap.size n [] := by
  obtain ⟨i, h1, h2, h3, h4⟩ := info_parts info40
  have := run_make (P := Tryd.prog) w 23 26 i _ Tryd.underlying23 h1 h2 .i64 .i64 (n : Int) (n : Int) (by omega) (Int.le_refl _) (by rw [h4]; omega) (by omega)
  rw [h3] at this
  simp only [Int.toNat_natCast] at this
  exact ⟨_, this, _, new_at _ _, by rw [size_madeCells]; simp, fun i hi => absurd hi (Nat.not_lt_zero _)⟩

theorem ClOut.din {b : Nat} {w : World} {r : LCl} (h : ClOut b w r) : ClIn w r := by
  obtain ⟨g, e, hi, hg, hl⟩ := h
  exact ⟨_, _, e, hi, by unfold maxLen; omega⟩
theorem RowV.cls {w : World} {b n : Nat} {cs : List LCl} (h : RowV w b n (cs.map fun r => r.1)) (hd : ∀ r ∈ cs, ClOut b w r) : Cls w (some ⟨b, 0, none⟩) cs := by
  refine ⟨.inr ⟨b, 0, rfl, h.lt, fun i hi => ?_⟩, fun r hr => (hd r hr).din⟩
  obtain ⟨vs, h1, h2, h3⟩ := h
  have := h3 i (by simpa using hi)
  simp only [List.getElem_map] at this
  simp [World.cell?, h1, this]

set_option maxRecDepth 100000 in
set_option maxHeartbeats 2000000 in
/-- eqInt64SS of clauses that are the same. -/
theorem eqL_any (sl sl' : Option Addr) (cap cap' : Nat) (cs cs' : List LCl) (w : World) (hn : cs.length ≤ 1048576) (hb : bareC cs = bareC cs') (h : Cls w sl cs) (h' : Cls w sl' cs') :
    Calls Tryd.prog 30 #[.slice sl cs.length cap, .slice sl' cs'.length cap'] w fun e w' => e = .returned (.bool true) ∧ Below w.heap.size w w' := by
  rw [← bareC_len hb]
  have H := Lib.hid h
  have H' := Lib.hid h'
  have HB := Lib.hid hb
  clear h h' hb
  generalize hN : cs.length = n at *
  have HN := Lib.hid hN
  clear hN
  go_enter Tryd.func30, Tryd.ntmps30
  go_wp2
  go_loopw [5] (fun i wr => ∃ j : Nat, i = .int .i64 j ∧ j ≤ n ∧ Hid (Below w.heap.size w wr)) (fun i _ => n - (intOf i).toNat)
  case atStart => exact ⟨0, rfl, Nat.zero_le _, Below.refl _ _⟩
  case round =>
    obtain ⟨j, rfl, hj, H2⟩ := hrel
    have hj0 : (0 : Int) ≤ (j : Int) := by omega
    by_cases h1 : j < n
    · have h1' : (j : Int) < (n : Int) := by omega
      have hlt : j < cs.length := by rw [HN.out]; exact h1
      have hlt' : j < cs'.length := by rw [← bareC_len HB.out]; exact hlt
      obtain ⟨g, o, rfl, Z0⟩ := H.out.at hlt
      obtain ⟨g', o', rfl, Z0'⟩ := H'.out.at hlt'
      have c0 := (Z0.below H2.out).2 j hlt
      have d0 := (Z0'.below H2.out).2 j hlt'
      have hgl := (Z0.below H2.out).1
      have hgl' := (Z0'.below H2.out).1
      have e1 : cs[j].2 = cs'[j].2 := by
        have := congrArg (fun l => l[j]?) HB.out
        simpa [bareC, hlt, hlt'] using this
      obtain ⟨s1, k1, v1, i1, l1⟩ := (H.out.each cs[j] (List.getElem_mem hlt)).below H2.out
      obtain ⟨s2, k2, v2, i2, l2⟩ := (H'.out.each cs'[j] (List.getElem_mem hlt')).below H2.out
      obtain ⟨v, zs, hp⟩ : ∃ v zs, cs[j] = (v, zs) := ⟨_, _, rfl⟩
      obtain ⟨v', zs', hp'⟩ : ∃ v zs, cs'[j] = (v, zs) := ⟨_, _, rfl⟩
      rw [hp] at c0 v1 i1 l1 e1
      rw [hp'] at d0 v2 i2 l2 e1
      dsimp only at c0 d0 v1 i1 l1 v2 i2 l2 e1
      subst e1 v1 v2
      have E : Hid (∀ W, Below wr.heap.size wr W → Calls Tryd.prog 31 #[.slice s1 zs.length k1, .slice s2 zs.length k2] W fun e w' => e = .returned (.bool true) ∧ Below W.heap.size W w') := fun W hW => eq_any s1 s2 k1 k2 zs W l1 (i1.below hW) (i2.below hW)
      clear hp hp' hlt hlt' Z0 Z0' i1 i2 l1 l2
      generalize zs.length = q at *
      have KB : Hid (∀ W, Below wr.heap.size wr W → g < W.heap.size ∧ g' < W.heap.size ∧ W.cell? ⟨g, o + j, none⟩ = some (.slice s1 q k1) ∧ W.cell? ⟨g', o' + j, none⟩ = some (.slice s2 q k2)) := fun W hW => ⟨Nat.lt_of_lt_of_le hgl hW.size, Nat.lt_of_lt_of_le hgl' hW.size, (hW.cell hgl).trans c0, (hW.cell hgl').trans d0⟩
      go_wp2_with fail
      refine wp_region_held_drew (S := fun W => g < W.heap.size ∧ g' < W.heap.size ∧ W.cell? ⟨g, o + j, none⟩ = some (.slice s1 q k1) ∧ W.cell? ⟨g', o' + j, none⟩ = some (.slice s2 q k2)) (by kernel_rfl) ?_ (fun hHeld => ?_)
      · exact KB.out _ (Below.refl _ _).drew
      refine wpAnyH_take (i := 0) (oi := _) (v := ?_) rfl (by kernel_rfl) (by kernel_rfl) (by kernel_rfl) (fun _ _ _ h => h) (Or.inl ⟨by rfl, ?_⟩) (by assumption) ?_
      rotate_left
      · first | (intro w hSw; (try dsimp only at hSw); go_simp; done) | (intro w hSw; (try dsimp only at hSw); go_simp; with_reducible rfl)
      try simp only [Act.put, List.setIfInBounds_toArray, List.set_cons_zero, List.set_cons_succ, List.getElem_toArray, List.getElem_cons_zero]
      refine wpAnyH_take (i := 1) (oi := _) (v := ?_) rfl (by kernel_rfl) (by kernel_rfl) (by kernel_rfl) (fun _ _ _ h => h) (Or.inl ⟨by rfl, ?_⟩) (by assumption) ?_
      rotate_left
      · first | (intro w hSw; (try dsimp only at hSw); go_simp; done) | (intro w hSw; (try dsimp only at hSw); go_simp; with_reducible rfl)
      try simp only [Act.put, List.setIfInBounds_toArray, List.set_cons_zero, List.set_cons_succ, List.getElem_toArray, List.getElem_cons_succ, List.getElem_cons_zero]
      refine wpAnyH_take (i := 2) (oi := _) (v := ?_) rfl (by kernel_rfl) (by kernel_rfl) (by kernel_rfl) (fun _ _ _ h => h) (Or.inl ⟨by rfl, ?_⟩) (by assumption) ?_
      rotate_left
      · first | (intro w hSw; (try dsimp only at hSw); go_simp; done) | (intro w hSw; (try dsimp only at hSw); go_simp; with_reducible rfl)
      try simp only [Act.put, List.setIfInBounds_toArray, List.set_cons_zero, List.set_cons_succ, List.getElem_toArray, List.getElem_cons_succ, List.getElem_cons_zero]
      refine wpAnyH_take (i := 3) (oi := _) (v := ?_) rfl (by kernel_rfl) (by kernel_rfl) (by kernel_rfl) (fun _ _ _ h => h) (Or.inl ⟨by rfl, ?_⟩) (by assumption) ?_
      rotate_left
      · first | (intro w hSw; (try dsimp only at hSw); go_simp; done) | (intro w hSw; (try dsimp only at hSw); go_simp; with_reducible rfl)
      try simp only [Act.put, List.setIfInBounds_toArray, List.set_cons_zero, List.set_cons_succ, List.getElem_toArray, List.getElem_cons_succ, List.getElem_cons_zero]
      refine wpAnyH_take (i := 4) (oi := _) (v := ?_) rfl (by kernel_rfl) (by kernel_rfl) (by kernel_rfl) (fun _ _ _ h => h) (Or.inl ⟨by rfl, ?_⟩) (by assumption) ?_
      rotate_left
      · first | (intro w hSw; (try dsimp only at hSw); go_simp; done) | (intro w hSw; (try dsimp only at hSw); go_simp; with_reducible rfl)
      try simp only [Act.put, List.setIfInBounds_toArray, List.set_cons_zero, List.set_cons_succ, List.getElem_toArray, List.getElem_cons_succ, List.getElem_cons_zero]
      refine wpAnyH_take (i := 5) (oi := _) (v := ?_) rfl (by kernel_rfl) (by kernel_rfl) (by kernel_rfl) (fun _ _ _ h => h) (Or.inl ⟨by rfl, ?_⟩) (by assumption) ?_
      rotate_left
      · first | (intro w hSw; (try dsimp only at hSw); go_simp; done) | (intro w hSw; (try dsimp only at hSw); go_simp; with_reducible rfl)
      try simp only [Act.put, List.setIfInBounds_toArray, List.set_cons_zero, List.set_cons_succ, List.getElem_toArray, List.getElem_cons_succ, List.getElem_cons_zero]
      refine wpAnyH_take (i := 6) (oi := _) (v := ?_) rfl (by kernel_rfl) (by kernel_rfl) (by kernel_rfl) (fun _ _ _ h => h) (Or.inl ⟨by rfl, ?_⟩) (by assumption) ?_
      rotate_left
      · first | (intro w hSw; (try dsimp only at hSw); go_simp; done) | (intro w hSw; (try dsimp only at hSw); go_simp; with_reducible rfl)
      try simp only [Act.put, List.setIfInBounds_toArray, List.set_cons_zero, List.set_cons_succ, List.getElem_toArray, List.getElem_cons_succ, List.getElem_cons_zero]
      refine wpAnyH_take (i := 7) (oi := _) (v := ?_) rfl (by kernel_rfl) (by kernel_rfl) (by kernel_rfl) (fun _ _ _ h => h) (Or.inl ⟨by rfl, ?_⟩) (by assumption) ?_
      rotate_left
      · first | (intro w hSw; (try dsimp only at hSw); go_simp; done) | (intro w hSw; (try dsimp only at hSw); go_simp; with_reducible rfl)
      try simp only [Act.put, List.setIfInBounds_toArray, List.set_cons_zero, List.set_cons_succ, List.getElem_toArray, List.getElem_cons_succ, List.getElem_cons_zero]
      refine wpAnyH_ready (rs := [8]) (by kernel_rfl) (by simp) ?_
      refine AllReadyH.cons rfl (fun K hK => ?_) AllReadyH.nil
      go_simp
      go_wp2_with (go_at_call 31; refine (E.out _ (by first | exact Below.refl _ _ | exact (Below.refl _ _).drew | exact Go.below_drewN (Below.refl _ _) _)).mono ?_; rintro e w5 ⟨rfl, b5⟩)
      have D5 : Hid (Below wr.heap.size wr w5) := bT ((Below.refl wr.heap.size wr).drew) b5
      clear b5
      refine hK.out _ _ ?_ (fun hHeld => ?_)
      · exact KB.out _ D5.out
      clear hK K
      refine wpAnyH_take (i := 9) (oi := _) (v := ?_) rfl (by kernel_rfl) (by kernel_rfl) (by kernel_rfl) (fun _ _ _ h => h) (Or.inl ⟨by rfl, ?_⟩) (by assumption) ?_
      rotate_left
      · first | (intro w hSw; (try dsimp only at hSw); go_simp; done) | (intro w hSw; (try dsimp only at hSw); go_simp; with_reducible rfl)
      try simp only [Act.put, List.setIfInBounds_toArray, List.set_cons_zero, List.set_cons_succ, List.getElem_toArray, List.getElem_cons_succ, List.getElem_cons_zero]
      refine wpAnyH_done (by kernel_rfl) ?_ _
      have BQ5 := Lib.hid (bT H2.out D5.out)
      clear D5 KB E c0 d0
      go_wp2_with fail
      go_roundw
      case rel => exact ⟨j + 1, by go_num, by omega, BQ5⟩
      case measure => simp [intOf]; omega
    · have h1' : ¬ (j : Int) < (n : Int) := by omega
      go_wp2
      go_ret
      exact ⟨rfl, H2.out⟩

set_option maxRecDepth 100000 in
set_option maxHeartbeats 1000000 in
/-- eqCnf of such ones. -/
theorem eqC_any (vars : Int) (sl sl' : Option Addr) (cap cap' : Nat) (cs cs' : List LCl) (w : World) (hn : cs.length ≤ 1048576) (hb : bareC cs = bareC cs') (h : Cls w sl cs) (h' : Cls w sl' cs') :
    Calls Tryd.prog 29 #[CV vars sl cs.length cap, CV vars sl' cs'.length cap'] w fun e w' => e = .returned (.bool true) ∧ Below w.heap.size w w' := by
  have E1 : Hid (∀ W, Below w.heap.size w W → Calls Tryd.prog 30 #[.slice sl cs.length cap, .slice sl' cs'.length cap'] W fun e w' => e = .returned (.bool true) ∧ Below W.heap.size W w') := fun W hW => eqL_any sl sl' cap cap' cs cs' W hn hb (h.below hW) (h'.below hW)
  clear h h' hb
  generalize cs.length = n at *
  generalize cs'.length = n' at *
  go_enter Tryd.func29, Tryd.ntmps29
  go_wp2_with fail
  refine (E1.out _ (bA (bA0 _ _) _)).mono ?_
  rintro e w1 ⟨rfl, b1⟩
  have D1 := Lib.hid (bT (bA (bA0 w _) _) b1)
  clear b1
  go_wp2
  go_ret
  exact ⟨rfl, D1.out⟩

end Go.Proofs.YtoobcodlgajieaaDoor
namespace Go.Proofs.YtoobcodlgajieaaDoor
open Go.RowKit
set_option linter.unusedVariables false

theorem own_len {w : World} {B : Nat} {e : TypeId} {m : Nat} {v : Value} {n : Nat} {xs : List Value} (h : w.ownsRow B e m v n xs) : n ≤ maxLen := by
  rcases h.2 with ⟨_, h0⟩ | ⟨g, cap, cur, _, _, _, h1, h2, _⟩
  · rw [h0]; exact Nat.zero_le _
  · exact Nat.le_trans h1 h2
theorem OwC.cls {w : World} {B : Nat} {v : Value} {cs : List LCl} (h : OwC w B v cs) : ∃ sl cap, v = .slice sl cs.length cap ∧ Cls w sl cs := by
  have each : ∀ r ∈ cs, ClIn w r := fun r hr => by
    obtain ⟨sl, cap, e, i⟩ := own_ints (h.each r hr)
    exact ⟨sl, cap, e, i, own_len (h.each r hr)⟩
  have hr := h.row
  rcases hr.2 with ⟨hv, h0⟩ | ⟨g, cap, cur, hv, hb, hg, _⟩
  · exact ⟨none, 0, by rw [hv, h0], .inl (List.eq_nil_of_length_eq_zero h0), each⟩
  · refine ⟨_, cap, hv, .inr ⟨g, 0, rfl, (Array.getElem?_eq_some_iff.1 hg).1, fun i hi => ?_⟩, each⟩
    subst hv
    rw [Nat.zero_add, hr.cellAt i (by omega)]
    simp [hdC, hi]
end Go.Proofs.YtoobcodlgajieaaDoor
namespace Go.Proofs.YtoobcodlgajieaaDoor
open Go.RowKit Go.Shelf
set_option linter.unusedVariables false
attribute [local go_sem] Oper.semAt_some

end Go.Proofs.YtoobcodlgajieaaDoor
namespace Go.Proofs.YtoobcodlgajieaaDoor
open Go.RowKit Go.Shelf
set_option linter.unusedVariables false
attribute [local go_sem] Oper.semAt_some

end Go.Proofs.YtoobcodlgajieaaDoor
namespace Go.Proofs.YtoobcodlgajieaaDoor
open Go.RowKit
set_option linter.unusedVariables false

end Go.Proofs.YtoobcodlgajieaaDoor
namespace Go.Proofs.YtoobcodlgajieaaDoor
open Go.RowKit
set_option linter.unusedVariables false

end Go.Proofs.YtoobcodlgajieaaDoor
