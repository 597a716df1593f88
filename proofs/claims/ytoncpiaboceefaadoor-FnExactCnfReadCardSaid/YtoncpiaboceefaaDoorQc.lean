/-
  THE LAWS' CLAUSES: how they lie; their size; copied, held against each other.
-/
import Derived.Test.YtoncpiaboceefaaDoorAo
import Derived.Test.YtoncpiaboceefaaDoorAp
namespace Go.Proofs.YtoncpiaboceefaaDoor
open Go.RowKit
set_option linter.unusedVariables false

/-- A clause as it lies: its slice, its literals. -/
abbrev LCl := Value × List Int
abbrev CV (vars : Int) (sl : Option Addr) (n cap : Nat) : Value := .agg #[.int .i64 vars, .slice sl n cap]
/-- The slices lie from cell o of block c on. -/
def ClAt (w : World) (c o : Nat) (cs : List LCl) : Prop := c < w.heap.size ∧ ∀ i (h : i < cs.length), w.cell? ⟨c, o + i, none⟩ = some cs[i].1
def ClIn (w : World) (r : LCl) : Prop := ∃ sl cap, r.1 = .slice sl r.2.length cap ∧ Ints w sl r.2 ∧ r.2.length ≤ maxLen
/-- A slice of clauses. -/
structure Cls (w : World) (sl : Option Addr) (cs : List LCl) : Prop where
  row : cs = [] ∨ ∃ c o, sl = some ⟨c, o, none⟩ ∧ ClAt w c o cs
  each : ∀ r ∈ cs, ClIn w r
theorem ClAt.below {w w' : World} {c o : Nat} {cs : List LCl} (h : ClAt w c o cs) (hb : Below w.heap.size w w') : ClAt w' c o cs :=
  ⟨Nat.lt_of_lt_of_le h.1 hb.size, fun i hi => (hb.cell h.1).trans (h.2 i hi)⟩
theorem ClIn.below {w w' : World} {r : LCl} (h : ClIn w r) (hb : Below w.heap.size w w') : ClIn w' r := by
  obtain ⟨sl, cap, e, hi, hl⟩ := h
  exact ⟨sl, cap, e, hi.below hb, hl⟩
theorem Cls.below {w w' : World} {sl : Option Addr} {cs : List LCl} (h : Cls w sl cs) (hb : Below w.heap.size w w') : Cls w' sl cs := by
  refine ⟨?_, fun r hr => (h.each r hr).below hb⟩
  rcases h.row with h | ⟨c, o, e, h⟩
  · exact .inl h
  · exact .inr ⟨c, o, e, h.below hb⟩
theorem Cls.at {w : World} {sl : Option Addr} {cs : List LCl} (h : Cls w sl cs) {k : Nat} (hk : k < cs.length) : ∃ c o, sl = some ⟨c, o, none⟩ ∧ ClAt w c o cs := by
  rcases h.row with e | h
  · rw [e] at hk; simp at hk
  · exact h
/-- The literals alone. -/
def bareC (cs : List LCl) : List (List Int) := cs.map fun r => r.2
theorem bareC_len {a b : List LCl} (h : bareC a = bareC b) : a.length = b.length := by have := congrArg List.length h; simpa [bareC] using this
/-- All literals of all clauses. -/
def totC (cs : List LCl) : Nat := (cs.map fun r => r.2.length).sum
theorem totC_add (a b : List LCl) : totC (a ++ b) = totC a + totC b := by simp [totC]
theorem totC_take (cs : List LCl) (k : Nat) (h : k < cs.length) : totC (cs.take (k + 1)) = totC (cs.take k) + cs[k].2.length := by
  rw [show cs.take (k + 1) = cs.take k ++ [cs[k]] by rw [List.take_add_one, List.getElem?_eq_getElem h]; rfl, totC_add]
  rfl
theorem totC_le (cs : List LCl) (k : Nat) : totC (cs.take k) ≤ totC cs := by
  have := congrArg totC (List.take_append_drop k cs)
  rw [totC_add] at this
  omega
theorem totC_mem (cs : List LCl) (r : LCl) (h : r ∈ cs) : r.2.length ≤ totC cs := by
  induction cs with
  | nil => cases h
  | cons a l ih =>
    rcases List.mem_cons.1 h with rfl | h
    · simp [totC]
    · have := ih h; simp only [totC, List.map_cons, List.sum_cons] at *; omega

set_option maxRecDepth 100000 in
set_option maxHeartbeats 1000000 in
/-- szInt64SS. -/
theorem szL_any (sl : Option Addr) (cap : Nat) (cs : List LCl) (m : Int) (w : World) (hn : cs.length ≤ maxLen) (h0 : 0 ≤ m) (h1 : m ≤ 1048576) (hz : Cls w sl cs) :
    Calls Tryd.prog 37 #[.slice sl cs.length cap, .int .i64 m] w fun e w' => e = .returned (.int .i64 (lft m (cs.length + totC cs))) ∧ Below w.heap.size w w' := by
  unfold maxLen at hn
  have HZ := Lib.hid hz
  clear hz
  generalize hN : cs.length = n at *
  have HN := Lib.hid hN
  clear hN
  by_cases hs : m - (n : Int) < 0
  · have F := Lib.hid (show lft m (n + totC cs) = -1 by unfold lft; rw [if_pos]; omega)
    go_enter Tryd.func37, Tryd.ntmps37
    go_wp2
    go_ret
    exact ⟨by rw [F.out]; rfl, Below.refl _ _⟩
  · go_enter Tryd.func37, Tryd.ntmps37
    go_wp2
    go_loopw [1, 5] (fun l i wr => ∃ k : Nat, i = .int .i64 k ∧ k ≤ n ∧ l = .int .i64 (m - n - (totC (cs.take k) : Nat)) ∧ (n : Int) + (totC (cs.take k) : Nat) ≤ m ∧ Hid (Below w.heap.size w wr)) (fun _ i _ => n - (intOf i).toNat)
    case atStart => exact ⟨0, rfl, Nat.zero_le _, by simp [totC], by simp [totC]; omega, Below.refl _ _⟩
    case round =>
      obtain ⟨k, rfl, hk, rfl, hle, H2⟩ := hrel
      have hk0 : (0 : Int) ≤ (k : Int) := by omega
      by_cases c1 : k < n
      · have c1' : (k : Int) < (n : Int) := by omega
        have hlt : k < cs.length := by rw [HN.out]; exact c1
        obtain ⟨c, o, rfl, Z0⟩ := HZ.out.at hlt
        have hc := (Z0.below H2.out).2 k hlt
        obtain ⟨sld, capd, ed, -, hdl⟩ := HZ.out.each cs[k] (List.getElem_mem hlt)
        rw [ed] at hc
        have E := Lib.hid (fun W => szI_any sld cs[k].2.length capd (m - n - (totC (cs.take k) : Nat)) W hdl (by omega) (by omega))
        have T1 := Lib.hid (totC_take cs k hlt)
        have T2 := Lib.hid (totC_le cs (k + 1))
        clear Z0 ed
        generalize cs[k].2.length = q at *
        clear hlt
        unfold maxLen at hdl
        rcases lft_cases (m - n - (totC (cs.take k) : Nat)) q (by omega) with ⟨e, h⟩ | ⟨e, h⟩
        · rw [e] at E
          have F := Lib.hid (show lft m (n + totC cs) = -1 by
            have := T1.out
            have := T2.out
            unfold lft; rw [if_pos]; omega)
          clear T1 T2
          generalize totC (cs.take k) = tk at *
          go_wp2_with fail
          refine (E.out _).mono ?_
          rintro e w5 ⟨rfl, b5⟩
          have D5 := Lib.hid (bT H2.out b5)
          clear b5
          go_wp2
          go_ret
          exact ⟨by rw [F.out]; rfl, D5.out⟩
        · rw [e] at E
          have T3 := T1.out
          clear T1 T2
          have TT : Hid (totC (cs.take (k + 1)) = totC (cs.take k) + q) := T3
          clear T3
          generalize totC (cs.take k) = tk at *
          have hpos : ¬ (m - n - tk - q) < 0 := by omega
          go_wp2_with fail
          refine (E.out _).mono ?_
          rintro e w5 ⟨rfl, b5⟩
          have D5 := Lib.hid (bT H2.out b5)
          clear b5
          go_wp2_with fail
          go_roundw
          case rel => exact ⟨k + 1, by go_num, by omega, by rw [TT.out]; congr 1; omega, by rw [TT.out]; omega, D5⟩
          case measure => simp [intOf]; omega
      · have c1' : ¬ (k : Int) < (n : Int) := by omega
        have F := Lib.hid (show lft m (n + totC cs) = m - n - (totC (cs.take k) : Nat) by
          have e : cs.take k = cs := List.take_of_length_le (by rw [HN.out]; omega)
          rw [e] at hle ⊢
          unfold lft; rw [if_neg] <;> omega)
        go_wp2
        go_ret
        exact ⟨by rw [F.out]; rfl, H2.out⟩

set_option maxRecDepth 100000 in
set_option maxHeartbeats 1000000 in
/-- szCnf. -/
theorem szC_any (vars : Int) (sl : Option Addr) (cap : Nat) (cs : List LCl) (w : World) (hn : cs.length ≤ maxLen) (hz : Cls w sl cs) :
    Calls Tryd.prog 27 #[CV vars sl cs.length cap, .int .i64 1048576] w fun e w' => e = .returned (.int .i64 (lft 1048576 (cs.length + totC cs))) ∧ Below w.heap.size w w' := by
  have E := Lib.hid (szL_any sl cap cs 1048576 (w.alloc (.cells #[.int .i64 vars, .slice sl cs.length cap] 53)) hn (by omega) (by omega) (hz.below (bA0 _ _)))
  have B0 := Lib.hid (bA0 w (.cells #[.int .i64 vars, .slice sl cs.length cap] 53))
  have LC := lft_cases 1048576 (cs.length + totC cs) (by omega)
  clear hz
  generalize cs.length + totC cs = s at *
  generalize cs.length = n at *
  rcases LC with ⟨e, h⟩ | ⟨e, h⟩
  · rw [e] at E ⊢
    clear e
    go_enter Tryd.func27, Tryd.ntmps27
    go_wp2_with fail
    refine E.out.mono ?_
    rintro e w1 ⟨rfl, b1⟩
    have D1 := Lib.hid (bT B0.out b1)
    clear b1
    go_wp2
    go_ret
    exact ⟨rfl, D1.out⟩
  · rw [e] at E ⊢
    have hneg : ¬ (1048576 - (s : Int)) < 0 := by omega
    clear e
    generalize (1048576 - (s : Int)) = z at *
    go_enter Tryd.func27, Tryd.ntmps27
    go_wp2_with fail
    refine E.out.mono ?_
    rintro e w1 ⟨rfl, b1⟩
    have D1 := Lib.hid (bT B0.out b1)
    clear b1
    go_wp2
    go_ret
    exact ⟨rfl, D1.out⟩

/-- A row of slices, the first of them written. -/
def RowV (w : World) (b : Nat) (n : Nat) (ts : List Value) : Prop :=
  ∃ vs : Array Value, w.heap[b]? = some (.cells vs 68) ∧ vs.size = n ∧ ∀ i (h : i < ts.length), vs[i]? = some ts[i]
theorem RowV.lt {w : World} {b n : Nat} {ts : List Value} (h : RowV w b n ts) : b < w.heap.size := by
  obtain ⟨vs, h1, _⟩ := h
  exact (Array.getElem?_eq_some_iff.1 h1).1
theorem RowV.below {w w' : World} {b n : Nat} {ts : List Value} (h : RowV w b n ts) (hb : Below w.heap.size w w') : RowV w' b n ts := by
  have hl := h.lt
  obtain ⟨vs, h1, h2, h3⟩ := h
  exact ⟨vs, (hb.block b hl).trans h1, h2, h3⟩
theorem RowV.there {w : World} {b n : Nat} {ts : List Value} (h : RowV w b n ts) (j : Nat) (hj : j < n) : (∃ v, w.cell? ⟨b, j, none⟩ = some v) ∧ w.frozen? ⟨b, j, none⟩ = false := by
  obtain ⟨vs, h1, h2, h3⟩ := h
  exact ⟨⟨vs[j]'(by omega), by simp [World.cell?, h1, show j < vs.size by omega]⟩, by simp [World.frozen?, h1]⟩
theorem RowV.step {w : World} {b n : Nat} {ts : List Value} (h : RowV w b n ts) (hl : ts.length < n) (x : Value) (k : Nat) (hk : k = ts.length) :
    RowV (w.setCell ⟨b, k, none⟩ x) b n (ts ++ [x]) := by
  subst hk
  obtain ⟨vs, h1, h2, h3⟩ := h
  refine ⟨_, heap_setCell_same w b _ vs 68 x h1, by simp [h2], fun i hi => ?_⟩
  simp only [List.length_append, List.length_singleton] at hi
  by_cases e : i < ts.length
  · rw [Array.getElem?_setIfInBounds_ne (by omega), h3 i e, List.getElem_append_left e]
  · have e' : i = ts.length := by omega
    subst e'
    rw [Array.getElem?_setIfInBounds_self_of_lt (by omega)]
    simp
theorem RowV.setLow {w : World} {b n : Nat} {ts : List Value} (h : RowV w b n ts) {b' : Nat} (hb : b' < b) (i : Nat) (v : Value) : RowV (w.setCell ⟨b', i, none⟩ v) b n ts := by
  obtain ⟨vs, h1, h2, h3⟩ := h
  exact ⟨vs, (Below.heap_setCell _ _ _ _ (show b ≠ b' by omega)).trans h1, h2, h3⟩
theorem info40 : (Tryd.prog.info? 68).map (fun i => (i.zero, i.size, i.bytes)) = some (some (.slice none 0 0), 1, 24) := by kernel_rfl
theorem make40 (n : Nat) (h : n ≤ 1048576) (w : World) :
    ∃ vs : Array Value, Sem.run Tryd.prog (Instr.makeSlice 23 (.int .i64 (n : Int)) (.int .i64 (n : Int))) w = .ok (.slice (some ⟨w.heap.size, 0, none⟩) n n) (w.alloc (.cells vs 68)) ∧ RowV (w.alloc (.cells vs 68)) w.heap.size n [] := by
  obtain ⟨i, h1, h2, h3, h4⟩ := info_parts info40
  have := run_make (P := Tryd.prog) w 23 68 i _ Tryd.underlying23 h1 h2 .i64 .i64 (n : Int) (n : Int) (by omega) (Int.le_refl _) (by rw [h4]; omega) (by omega)
  rw [h3] at this
  simp only [Int.toNat_natCast] at this
  exact ⟨_, this, _, new_at _ _, by rw [size_madeCells]; simp, fun i hi => absurd hi (Nat.not_lt_zero _)⟩

/-- A clause that has memory of its own, not in block b. -/
def ClOut (b : Nat) (w : World) (r : LCl) : Prop := ∃ g, r.1 = .slice (some ⟨g, 0, none⟩) r.2.length r.2.length ∧ Ints w (some ⟨g, 0, none⟩) r.2 ∧ b < g ∧ r.2.length ≤ 1048576
theorem ClOut.below {b : Nat} {w w' : World} {r : LCl} (h : ClOut b w r) (hb : Below w.heap.size w w') : ClOut b w' r := by
  obtain ⟨g, e, hi, hg, hl⟩ := h
  exact ⟨g, e, hi.below hb, hg, hl⟩
theorem ClOut.set {b : Nat} {w : World} {r : LCl} (h : ClOut b w r) {b' : Nat} (hb : b' ≤ b) (i : Nat) (v : Value) : ClOut b (w.setCell ⟨b', i, none⟩ v) r := by
  obtain ⟨g, e, hi, hg, hl⟩ := h
  exact ⟨g, e, hi.set (by omega) i v, hg, hl⟩
theorem ClOut.din {b : Nat} {w : World} {r : LCl} (h : ClOut b w r) : ClIn w r := by
  obtain ⟨g, e, hi, hg, hl⟩ := h
  exact ⟨_, _, e, hi, by unfold maxLen; omega⟩
theorem RowV.cls {w : World} {b n : Nat} {cs : List LCl} (h : RowV w b n (cs.map fun r => r.1)) (hd : ∀ r ∈ cs, ClOut b w r) : Cls w (some ⟨b, 0, none⟩) cs := by
  refine ⟨.inr ⟨b, 0, rfl, h.lt, fun i hi => ?_⟩, fun r hr => (hd r hr).din⟩
  obtain ⟨vs, h1, h2, h3⟩ := h
  have := h3 i (by simpa using hi)
  simp only [List.getElem_map] at this
  simp [World.cell?, h1, this]

set_option maxRecDepth 100000 in
set_option maxHeartbeats 1000000 in
/-- toInt64SS. -/
theorem toL_any (sl : Option Addr) (cap : Nat) (cs : List LCl) (w : World) (hn : cs.length ≤ 1048576) (hs : totC cs ≤ 1048576) (hz : Cls w sl cs) :
    Calls Tryd.prog 38 #[.slice sl cs.length cap] w fun e w' => ∃ cs' : List LCl, e = .returned (.slice (some ⟨w.heap.size, 0, none⟩) cs.length cs.length) ∧ bareC cs' = bareC cs ∧ RowV w' w.heap.size cs.length (cs'.map fun r => r.1) ∧ (∀ r ∈ cs', ClOut w.heap.size w' r) ∧ Below w.heap.size w w' := by
  have HZ := Lib.hid hz
  have HS := Lib.hid (fun r hr => Nat.le_trans (totC_mem cs r hr) hs)
  clear hz hs
  obtain ⟨vs, hmk, hr0⟩ := make40 cs.length hn w
  have R0 := Lib.hid hr0
  clear hr0
  generalize hN : cs.length = n at *
  have HN := Lib.hid hN
  clear hN
  go_enter Tryd.func38, Tryd.ntmps38
  go_wp2
  go_loopw [4] (fun i wr => ∃ (k : Nat) (cs' : List LCl), i = .int .i64 k ∧ k ≤ n ∧ Hid (bareC cs' = bareC (cs.take k)) ∧ Hid (RowV wr w.heap.size n (cs'.map fun r => r.1)) ∧ Hid (∀ r ∈ cs', ClOut w.heap.size wr r) ∧ Hid (Below w.heap.size w wr)) (fun i _ => n - (intOf i).toNat)
  case atStart => exact ⟨0, [], rfl, Nat.zero_le _, rfl, R0, (fun r hr => by cases hr), bA0 _ _⟩
  case round =>
    obtain ⟨k, cs', rfl, hk, EB, R1, DO, H2⟩ := hrel
    have hk0 : (0 : Int) ≤ (k : Int) := by omega
    by_cases c1 : k < n
    · have c1' : (k : Int) < (n : Int) := by omega
      have hlt : k < cs.length := by rw [HN.out]; exact c1
      obtain ⟨c, o, rfl, Z0⟩ := HZ.out.at hlt
      have hc := (Z0.below H2.out).2 k hlt
      obtain ⟨sld, capd, ed, hi, hdl⟩ := (HZ.out.each cs[k] (List.getElem_mem hlt)).below (show Below w.heap.size w wr from H2.out)
      have hsm := HS.out cs[k] (List.getElem_mem hlt)
      obtain ⟨v, zs, hp⟩ : ∃ v zs, cs[k] = (v, zs) := ⟨_, _, rfl⟩
      rw [hp] at hc ed hi hdl hsm
      dsimp only at hc ed hi hdl hsm
      rw [ed] at hc
      have EBn := Lib.hid (show ∀ v', bareC (cs' ++ [(v', zs)]) = bareC (cs.take (k + 1)) by
        intro v'
        rw [List.take_add_one, List.getElem?_eq_getElem hlt, hp]
        have := EB.out
        unfold bareC at this ⊢
        rw [List.map_append, this]
        simp)
      have LT := Lib.hid (show k = (cs'.map fun r => r.1).length by
        have := congrArg List.length EB.out
        simp only [bareC, List.length_map, List.length_take] at this ⊢
        omega)
      have LN := Lib.hid (show (cs'.map fun r => r.1).length < n by rw [← LT.out]; exact c1)
      have E := Lib.hid (to_any sld capd zs wr hsm hi)
      have HDL := Lib.hid hsm
      have hws := H2.out.size
      clear hp hlt ed hi hdl hsm Z0
      generalize hq : zs.length = q at *
      have HQ := Lib.hid hq
      clear hq
      go_wp2_with fail
      refine E.out.mono ?_
      rintro e w5 ⟨rfl, i5, b5⟩
      have D5 := Lib.hid (bT H2.out b5)
      have R5 := Lib.hid (R1.out.below b5)
      have hb1 := R1.out.lt
      obtain ⟨⟨v0, g0⟩, f0⟩ := R5.out.there k (by omega)
      have R6 := Lib.hid (R5.out.step LN.out (.slice (some ⟨wr.heap.size, 0, none⟩) q q) k LT.out)
      have D6 : Hid (Below w.heap.size w (w5.setCell ⟨w.heap.size, k, none⟩ (.slice (some ⟨wr.heap.size, 0, none⟩) q q))) := D5.out.setCell (Nat.le_refl _) _
      have R7 : Hid (RowV (w5.setCell ⟨w.heap.size, k, none⟩ (.slice (some ⟨wr.heap.size, 0, none⟩) q q)) w.heap.size n ((cs' ++ [(Value.slice (some ⟨wr.heap.size, 0, none⟩) q q, zs)]).map fun r => r.1)) := by
        rw [List.map_append]; exact R6.out
      have DN : Hid (∀ r ∈ cs' ++ [(Value.slice (some ⟨wr.heap.size, 0, none⟩) q q, zs)], ClOut w.heap.size (w5.setCell ⟨w.heap.size, k, none⟩ (.slice (some ⟨wr.heap.size, 0, none⟩) q q)) r) := fun r hr => by
        refine ClOut.set ?_ (Nat.le_refl _) _ _
        rcases List.mem_append.1 hr with hr | hr
        · exact (DO.out r hr).below b5
        · simp at hr; subst hr
          exact ⟨wr.heap.size, by rw [HQ.out], i5, by omega, by rw [HQ.out]; exact HDL.out⟩
      have EB7 := Lib.hid (EBn.out (.slice (some ⟨wr.heap.size, 0, none⟩) q q))
      clear b5 R1 R5 R6 EBn LT LN i5 DO E EB
      go_wp2_with fail
      go_roundw
      case rel => exact ⟨k + 1, _, by go_num, by omega, EB7, R7, DN, D6⟩
      case measure => simp [intOf]; omega
    · have c1' : ¬ (k : Int) < (n : Int) := by omega
      have P := Lib.hid (show bareC cs' = bareC cs by have := EB.out; rwa [List.take_of_length_le (by rw [HN.out]; omega)] at this)
      go_wp2
      go_ret
      exact ⟨rfl, cs', P.out, R1.out, fun a b h => DO.out (a, b) h, H2.out⟩

set_option maxRecDepth 100000 in
set_option maxHeartbeats 2000000 in
/-- eqInt64SS of clauses that are the same. -/
theorem eqL_any (sl sl' : Option Addr) (cap cap' : Nat) (cs cs' : List LCl) (w : World) (hn : cs.length ≤ 1048576) (hb : bareC cs = bareC cs') (h : Cls w sl cs) (h' : Cls w sl' cs') :
    Calls Tryd.prog 39 #[.slice sl cs.length cap, .slice sl' cs'.length cap'] w fun e w' => e = .returned (.bool true) ∧ Below w.heap.size w w' := by
  rw [← bareC_len hb]
  have H := Lib.hid h
  have H' := Lib.hid h'
  have HB := Lib.hid hb
  clear h h' hb
  generalize hN : cs.length = n at *
  have HN := Lib.hid hN
  clear hN
  go_enter Tryd.func39, Tryd.ntmps39
  go_wp2
  go_loopw [5] (fun i wr => ∃ j : Nat, i = .int .i64 j ∧ j ≤ n ∧ Hid (Below w.heap.size w wr)) (fun i _ => n - (intOf i).toNat)
  case atStart => exact ⟨0, rfl, Nat.zero_le _, Below.refl _ _⟩
  case round =>
    obtain ⟨j, rfl, hj, H2⟩ := hrel
    have hj0 : (0 : Int) ≤ (j : Int) := by omega
    by_cases h1 : j < n
    · have h1' : (j : Int) < (n : Int) := by omega
      have hlt : j < cs.length := by rw [HN.out]; exact h1
      have hlt' : j < cs'.length := by rw [← bareC_len HB.out]; exact hlt
      obtain ⟨g, o, rfl, Z0⟩ := H.out.at hlt
      obtain ⟨g', o', rfl, Z0'⟩ := H'.out.at hlt'
      have c0 := (Z0.below H2.out).2 j hlt
      have d0 := (Z0'.below H2.out).2 j hlt'
      have hgl := (Z0.below H2.out).1
      have hgl' := (Z0'.below H2.out).1
      have e1 : cs[j].2 = cs'[j].2 := by
        have := congrArg (fun l => l[j]?) HB.out
        simpa [bareC, hlt, hlt'] using this
      obtain ⟨s1, k1, v1, i1, l1⟩ := (H.out.each cs[j] (List.getElem_mem hlt)).below H2.out
      obtain ⟨s2, k2, v2, i2, l2⟩ := (H'.out.each cs'[j] (List.getElem_mem hlt')).below H2.out
      obtain ⟨v, zs, hp⟩ : ∃ v zs, cs[j] = (v, zs) := ⟨_, _, rfl⟩
      obtain ⟨v', zs', hp'⟩ : ∃ v zs, cs'[j] = (v, zs) := ⟨_, _, rfl⟩
      rw [hp] at c0 v1 i1 l1 e1
      rw [hp'] at d0 v2 i2 l2 e1
      dsimp only at c0 d0 v1 i1 l1 v2 i2 l2 e1
      subst e1 v1 v2
      have E : Hid (∀ W, Below wr.heap.size wr W → Calls Tryd.prog 86 #[.slice s1 zs.length k1, .slice s2 zs.length k2] W fun e w' => e = .returned (.bool true) ∧ Below W.heap.size W w') := fun W hW => eq_any s1 s2 k1 k2 zs W l1 (i1.below hW) (i2.below hW)
      clear hp hp' hlt hlt' Z0 Z0' i1 i2 l1 l2
      generalize zs.length = q at *
      have KB : Hid (∀ W, Below wr.heap.size wr W → g < W.heap.size ∧ g' < W.heap.size ∧ W.cell? ⟨g, o + j, none⟩ = some (.slice s1 q k1) ∧ W.cell? ⟨g', o' + j, none⟩ = some (.slice s2 q k2)) := fun W hW => ⟨Nat.lt_of_lt_of_le hgl hW.size, Nat.lt_of_lt_of_le hgl' hW.size, (hW.cell hgl).trans c0, (hW.cell hgl').trans d0⟩
      go_wp2_with fail
      refine wp_region_held_drew (S := fun W => g < W.heap.size ∧ g' < W.heap.size ∧ W.cell? ⟨g, o + j, none⟩ = some (.slice s1 q k1) ∧ W.cell? ⟨g', o' + j, none⟩ = some (.slice s2 q k2)) (by kernel_rfl) ?_ (fun hHeld => ?_)
      · exact KB.out _ (Below.refl _ _).drew
      refine wpAnyH_take (i := 0) (oi := _) (v := ?_) rfl (by kernel_rfl) (by kernel_rfl) (by kernel_rfl) (fun _ _ _ h => h) (Or.inl ⟨by rfl, ?_⟩) (by assumption) ?_
      rotate_left
      · first | (intro w hSw; (try dsimp only at hSw); go_simp; done) | (intro w hSw; (try dsimp only at hSw); go_simp; with_reducible rfl)
      try simp only [Act.put, List.setIfInBounds_toArray, List.set_cons_zero, List.set_cons_succ, List.getElem_toArray, List.getElem_cons_zero]
      refine wpAnyH_take (i := 1) (oi := _) (v := ?_) rfl (by kernel_rfl) (by kernel_rfl) (by kernel_rfl) (fun _ _ _ h => h) (Or.inl ⟨by rfl, ?_⟩) (by assumption) ?_
      rotate_left
      · first | (intro w hSw; (try dsimp only at hSw); go_simp; done) | (intro w hSw; (try dsimp only at hSw); go_simp; with_reducible rfl)
      try simp only [Act.put, List.setIfInBounds_toArray, List.set_cons_zero, List.set_cons_succ, List.getElem_toArray, List.getElem_cons_succ, List.getElem_cons_zero]
      refine wpAnyH_take (i := 2) (oi := _) (v := ?_) rfl (by kernel_rfl) (by kernel_rfl) (by kernel_rfl) (fun _ _ _ h => h) (Or.inl ⟨by rfl, ?_⟩) (by assumption) ?_
      rotate_left
      · first | (intro w hSw; (try dsimp only at hSw); go_simp; done) | (intro w hSw; (try dsimp only at hSw); go_simp; with_reducible rfl)
      try simp only [Act.put, List.setIfInBounds_toArray, List.set_cons_zero, List.set_cons_succ, List.getElem_toArray, List.getElem_cons_succ, List.getElem_cons_zero]
      refine wpAnyH_take (i := 3) (oi := _) (v := ?_) rfl (by kernel_rfl) (by kernel_rfl) (by kernel_rfl) (fun _ _ _ h => h) (Or.inl ⟨by rfl, ?_⟩) (by assumption) ?_
      rotate_left
      · first | (intro w hSw; (try dsimp only at hSw); go_simp; done) | (intro w hSw; (try dsimp only at hSw); go_simp; with_reducible rfl)
      try simp only [Act.put, List.setIfInBounds_toArray, List.set_cons_zero, List.set_cons_succ, List.getElem_toArray, List.getElem_cons_succ, List.getElem_cons_zero]
      refine wpAnyH_take (i := 4) (oi := _) (v := ?_) rfl (by kernel_rfl) (by kernel_rfl) (by kernel_rfl) (fun _ _ _ h => h) (Or.inl ⟨by rfl, ?_⟩) (by assumption) ?_
      rotate_left
      · first | (intro w hSw; (try dsimp only at hSw); go_simp; done) | (intro w hSw; (try dsimp only at hSw); go_simp; with_reducible rfl)
      try simp only [Act.put, List.setIfInBounds_toArray, List.set_cons_zero, List.set_cons_succ, List.getElem_toArray, List.getElem_cons_succ, List.getElem_cons_zero]
      refine wpAnyH_take (i := 5) (oi := _) (v := ?_) rfl (by kernel_rfl) (by kernel_rfl) (by kernel_rfl) (fun _ _ _ h => h) (Or.inl ⟨by rfl, ?_⟩) (by assumption) ?_
      rotate_left
      · first | (intro w hSw; (try dsimp only at hSw); go_simp; done) | (intro w hSw; (try dsimp only at hSw); go_simp; with_reducible rfl)
      try simp only [Act.put, List.setIfInBounds_toArray, List.set_cons_zero, List.set_cons_succ, List.getElem_toArray, List.getElem_cons_succ, List.getElem_cons_zero]
      refine wpAnyH_take (i := 6) (oi := _) (v := ?_) rfl (by kernel_rfl) (by kernel_rfl) (by kernel_rfl) (fun _ _ _ h => h) (Or.inl ⟨by rfl, ?_⟩) (by assumption) ?_
      rotate_left
      · first | (intro w hSw; (try dsimp only at hSw); go_simp; done) | (intro w hSw; (try dsimp only at hSw); go_simp; with_reducible rfl)
      try simp only [Act.put, List.setIfInBounds_toArray, List.set_cons_zero, List.set_cons_succ, List.getElem_toArray, List.getElem_cons_succ, List.getElem_cons_zero]
      refine wpAnyH_take (i := 7) (oi := _) (v := ?_) rfl (by kernel_rfl) (by kernel_rfl) (by kernel_rfl) (fun _ _ _ h => h) (Or.inl ⟨by rfl, ?_⟩) (by assumption) ?_
      rotate_left
      · first | (intro w hSw; (try dsimp only at hSw); go_simp; done) | (intro w hSw; (try dsimp only at hSw); go_simp; with_reducible rfl)
      try simp only [Act.put, List.setIfInBounds_toArray, List.set_cons_zero, List.set_cons_succ, List.getElem_toArray, List.getElem_cons_succ, List.getElem_cons_zero]
      refine wpAnyH_ready (rs := [8]) (by kernel_rfl) (by simp) ?_
      refine AllReadyH.cons rfl (fun K hK => ?_) AllReadyH.nil
      go_simp
      go_wp2_with (go_at_call 86; refine (E.out _ (by first | exact Below.refl _ _ | exact (Below.refl _ _).drew | exact Go.below_drewN (Below.refl _ _) _)).mono ?_; rintro e w5 ⟨rfl, b5⟩)
      have D5 : Hid (Below wr.heap.size wr w5) := bT ((Below.refl wr.heap.size wr).drew) b5
      clear b5
      refine hK.out _ _ ?_ (fun hHeld => ?_)
      · exact KB.out _ D5.out
      clear hK K
      refine wpAnyH_take (i := 9) (oi := _) (v := ?_) rfl (by kernel_rfl) (by kernel_rfl) (by kernel_rfl) (fun _ _ _ h => h) (Or.inl ⟨by rfl, ?_⟩) (by assumption) ?_
      rotate_left
      · first | (intro w hSw; (try dsimp only at hSw); go_simp; done) | (intro w hSw; (try dsimp only at hSw); go_simp; with_reducible rfl)
      try simp only [Act.put, List.setIfInBounds_toArray, List.set_cons_zero, List.set_cons_succ, List.getElem_toArray, List.getElem_cons_succ, List.getElem_cons_zero]
      refine wpAnyH_done (by kernel_rfl) ?_ _
      have BQ5 := Lib.hid (bT H2.out D5.out)
      clear D5 KB E c0 d0
      go_wp2_with fail
      go_roundw
      case rel => exact ⟨j + 1, by go_num, by omega, BQ5⟩
      case measure => simp [intOf]; omega
    · have h1' : ¬ (j : Int) < (n : Int) := by omega
      go_wp2
      go_ret
      exact ⟨rfl, H2.out⟩

set_option maxRecDepth 100000 in
set_option maxHeartbeats 1000000 in
/-- eqCnf of such ones. -/
theorem eqC_any (vars : Int) (sl sl' : Option Addr) (cap cap' : Nat) (cs cs' : List LCl) (w : World) (hn : cs.length ≤ 1048576) (hb : bareC cs = bareC cs') (h : Cls w sl cs) (h' : Cls w sl' cs') :
    Calls Tryd.prog 31 #[CV vars sl cs.length cap, CV vars sl' cs'.length cap'] w fun e w' => e = .returned (.bool true) ∧ Below w.heap.size w w' := by
  have E1 : Hid (∀ W, Below w.heap.size w W → Calls Tryd.prog 39 #[.slice sl cs.length cap, .slice sl' cs'.length cap'] W fun e w' => e = .returned (.bool true) ∧ Below W.heap.size W w') := fun W hW => eqL_any sl sl' cap cap' cs cs' W hn hb (h.below hW) (h'.below hW)
  clear h h' hb
  generalize cs.length = n at *
  generalize cs'.length = n' at *
  go_enter Tryd.func31, Tryd.ntmps31
  go_wp2_with fail
  refine (E1.out _ (bA (bA0 _ _) _)).mono ?_
  rintro e w1 ⟨rfl, b1⟩
  have D1 := Lib.hid (bT (bA (bA0 w _) _) b1)
  clear b1
  go_wp2
  go_ret
  exact ⟨rfl, D1.out⟩

end Go.Proofs.YtoncpiaboceefaaDoor
