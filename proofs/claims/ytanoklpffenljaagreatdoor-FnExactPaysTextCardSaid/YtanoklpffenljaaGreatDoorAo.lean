/-
  THE LAWS' TABLES: copied into tables of the program.
-/
import Derived.Test.YtanoklpffenljaaGreatDoorAn
namespace Go.Proofs.YtanoklpffenljaaGreatDoor
open Go.RowKit
set_option linter.unusedVariables false

theorem IntsAt.set {w : World} {c o : Nat} {zs : List Int} (h : IntsAt w c o zs) {b : Nat} (hb : c ≠ b) (i : Nat) (v : Value) : IntsAt (w.setCell ⟨b, i, none⟩ v) c o zs := by
  refine ⟨by simpa [World.setCell] using h.1, fun j hj => ?_⟩
  rw [← h.2 j hj]
  simp only [World.cell?]
  rw [Below.heap_setCell _ _ _ _ hb]
theorem Ints.set {w : World} {c o : Nat} {zs : List Int} (h : Ints w (some ⟨c, o, none⟩) zs) {b : Nat} (hb : c ≠ b) (i : Nat) (v : Value) : Ints (w.setCell ⟨b, i, none⟩ v) (some ⟨c, o, none⟩) zs := by
  rcases h with h | ⟨c', o', e, h⟩
  · exact .inl h
  · cases e; exact .inr ⟨_, _, rfl, h.set hb i v⟩

set_option maxRecDepth 100000 in
set_option maxHeartbeats 1000000 in
theorem toP_any (a b q : Int) (w : World) : Calls Tryz.prog 95 #[.agg #[.int .i64 a, .int .i64 b, .int .i64 q]] w fun e w' => e = .returned (.agg #[.int .i64 a, .int .i64 b, .int .i64 q]) ∧ Below w.heap.size w w' := by
  go_enter Tryz.func95, Tryz.ntmps95
  go_wp2
  exact bodyPost_ret (v := .agg #[.int .i64 a, .int .i64 b, .int .i64 q]) (by simp [results, Tryz.results95, go_sem]) rfl ⟨rfl, bA (bA (bA0 _ _) _) _⟩

set_option maxRecDepth 100000 in
set_option maxHeartbeats 1000000 in
theorem toS_any (x y : Int) (sl : Option Addr) (cap : Nat) (zs : List Int) (w : World) (hn : zs.length ≤ 1048576) (hz : Ints w sl zs) :
    Calls Tryz.prog 94 #[SV x y sl zs.length cap] w fun e w' => ∃ g, e = .returned (SV x y (some ⟨g, 0, none⟩) zs.length zs.length) ∧ Ints w' (some ⟨g, 0, none⟩) zs ∧ w.heap.size ≤ g ∧ Below w.heap.size w w' := by
  have T : Hid (∀ w1, Below w.heap.size w w1 → Calls Tryz.prog 37 #[.slice sl zs.length cap] w1 fun e w' => e = .returned (.slice (some ⟨w1.heap.size, 0, none⟩) zs.length zs.length) ∧ Ints w' (some ⟨w1.heap.size, 0, none⟩) zs ∧ Below w1.heap.size w1 w') :=
    fun w1 hb => to_any sl cap zs w1 hn (hz.below hb)
  clear hz
  generalize zs.length = n at *
  go_enter Tryz.func94, Tryz.ntmps94
  go_wp2_with fail
  refine (T.out _ (bA (bA (bA0 _ _) _) _)).mono ?_
  rintro e w1 ⟨rfl, hi, hb⟩
  obtain ⟨hc, hf⟩ := bcell hb; have hz := hb.size; simp at hz hi
  have HI : Hid (Ints w1 (some ⟨w.heap.size + 1 + 1 + 1, 0, none⟩) zs) := hi
  clear hi
  go_wp2
  refine bodyPost_ret (v := SV x y (some ⟨w.heap.size + 3, 0, none⟩) n n) (by simp [results, Tryz.results94, go_sem, hc]) rfl ⟨w.heap.size + 3, rfl, ?_, by omega, ?_⟩
  · exact ((((HI.out.set (b := w.heap.size + 1 + 1) (by omega) _ _).set (b := w.heap.size + 1) (by omega) _ _).set (b := w.heap.size + 1) (by omega) _ _).set (b := w.heap.size + 1) (by omega) _ _)
  · exact ((((bT (bA (bA (bA0 _ _) _) _) hb).setCell (Nat.le_add_right _ 2) _).setCell (Nat.le_add_right _ 1) _).setCell (Nat.le_add_right _ 1) _).setCell (Nat.le_add_right _ 1) _

/-- A row of triples, the first of them written. -/
def Row3 (w : World) (b : Nat) (t : TypeId) (n : Nat) (ts : List (Value × Value × Value)) : Prop :=
  ∃ vs : Array Value, w.heap[b]? = some (.cells vs t) ∧ vs.size = n * 3 ∧ ∀ i (h : i < ts.length), vs[i * 3]? = some ts[i].1 ∧ vs[i * 3 + 1]? = some ts[i].2.1 ∧ vs[i * 3 + 2]? = some ts[i].2.2
theorem Row3.lt {w : World} {b : Nat} {t : TypeId} {n : Nat} {ts : List (Value × Value × Value)} (h : Row3 w b t n ts) : b < w.heap.size := by
  obtain ⟨vs, h1, _⟩ := h
  exact (Array.getElem?_eq_some_iff.1 h1).1
theorem Row3.below {w w' : World} {b : Nat} {t : TypeId} {n : Nat} {ts : List (Value × Value × Value)} (h : Row3 w b t n ts) (hb : Below w.heap.size w w') : Row3 w' b t n ts := by
  have hl := h.lt
  obtain ⟨vs, h1, h2, h3⟩ := h
  exact ⟨vs, (hb.block b hl).trans h1, h2, h3⟩
theorem Row3.there {w : World} {b : Nat} {t : TypeId} {n : Nat} {ts : List (Value × Value × Value)} (h : Row3 w b t n ts) (j : Nat) (hj : j < n * 3) : (∃ v, w.cell? ⟨b, j, none⟩ = some v) ∧ w.frozen? ⟨b, j, none⟩ = false := by
  obtain ⟨vs, h1, h2, h3⟩ := h
  exact ⟨⟨vs[j]'(by omega), by simp [World.cell?, h1, show j < vs.size by omega]⟩, by simp [World.frozen?, h1]⟩
theorem Row3.at {w : World} {b : Nat} {t : TypeId} {n : Nat} {ts : List (Value × Value × Value)} (h : Row3 w b t n ts) (i : Nat) (hi : i < ts.length) : w.cell? ⟨b, i * 3, none⟩ = some ts[i].1 ∧ w.cell? ⟨b, i * 3 + 1, none⟩ = some ts[i].2.1 ∧ w.cell? ⟨b, i * 3 + 2, none⟩ = some ts[i].2.2 := by
  obtain ⟨vs, h1, h2, h3⟩ := h
  have := h3 i hi
  refine ⟨?_, ?_, ?_⟩ <;> simp [World.cell?, h1, this]
theorem Row3.step {w : World} {b : Nat} {t : TypeId} {n : Nat} {ts : List (Value × Value × Value)} (h : Row3 w b t n ts) (hl : ts.length < n) (x y z : Value) (k : Nat) (hk : k = ts.length) :
    Row3 (((w.setCell ⟨b, k * 3, none⟩ x).setCell ⟨b, k * 3 + 1, none⟩ y).setCell ⟨b, k * 3 + 2, none⟩ z) b t n (ts ++ [(x, y, z)]) := by
  subst hk
  obtain ⟨vs, h1, h2, h3⟩ := h
  refine ⟨_, heap_setCell_same _ b _ _ t _ (heap_setCell_same _ b _ _ t _ (heap_setCell_same w b _ vs t x h1)), by simp [h2], fun i hi => ?_⟩
  simp only [List.length_append, List.length_singleton] at hi
  by_cases e : i < ts.length
  · obtain ⟨a1, a2, a3⟩ := h3 i e
    simp only [List.getElem_append_left e]
    refine ⟨?_, ?_, ?_⟩
    · rw [Array.getElem?_setIfInBounds_ne (by omega), Array.getElem?_setIfInBounds_ne (by omega), Array.getElem?_setIfInBounds_ne (by omega)]; exact a1
    · rw [Array.getElem?_setIfInBounds_ne (by omega), Array.getElem?_setIfInBounds_ne (by omega), Array.getElem?_setIfInBounds_ne (by omega)]; exact a2
    · rw [Array.getElem?_setIfInBounds_ne (by omega), Array.getElem?_setIfInBounds_ne (by omega), Array.getElem?_setIfInBounds_ne (by omega)]; exact a3
  · have e' : i = ts.length := by omega
    subst e'
    simp only [List.getElem_append_right (Nat.le_refl _), Nat.sub_self, List.getElem_cons_zero]
    refine ⟨?_, ?_, ?_⟩
    · rw [Array.getElem?_setIfInBounds_ne (by omega), Array.getElem?_setIfInBounds_ne (by omega), Array.getElem?_setIfInBounds_self_of_lt (by omega)]
    · rw [Array.getElem?_setIfInBounds_ne (by omega), Array.getElem?_setIfInBounds_self_of_lt (by simp; omega)]
    · rw [Array.getElem?_setIfInBounds_self_of_lt (by simp; omega)]

theorem new_at (w : World) (o : Obj) : (w.alloc o).heap[w.heap.size]? = some o := by
  show (w.heap.push _)[w.heap.size]? = _
  simp
theorem info56 : (Tryz.prog.info? 138).map (fun i => (i.zero, i.size, i.bytes)) = some (some (.agg #[.int .i64 0, .int .i64 0, .int .i64 0]), 3, 24) := by kernel_rfl
theorem info54 : (Tryz.prog.info? 87).map (fun i => (i.zero, i.size, i.bytes)) = some (some (.agg #[.int .i64 0, .int .i64 0, .slice none 0 0]), 3, 40) := by kernel_rfl
theorem make56 (n : Nat) (h : n ≤ 1048576) (w : World) :
    ∃ vs : Array Value, Sem.run Tryz.prog (Instr.makeSlice 33 (.int .i64 (n : Int)) (.int .i64 (n : Int))) w = .ok (.slice (some ⟨w.heap.size, 0, none⟩) n n) (w.alloc (.cells vs 138)) ∧ Row3 (w.alloc (.cells vs 138)) w.heap.size 138 n [] := by
  obtain ⟨i, h1, h2, h3, h4⟩ := info_parts info56
  have := run_make (P := Tryz.prog) w 33 138 i _ Tryz.underlying33 h1 h2 .i64 .i64 (n : Int) (n : Int) (by omega) (Int.le_refl _) (by rw [h4]; omega) (by omega)
  rw [h3] at this
  simp only [Int.toNat_natCast] at this
  exact ⟨_, this, _, new_at _ _, size_madeCells _ _, fun i hi => absurd hi (Nat.not_lt_zero _)⟩
theorem make54 (n : Nat) (h : n ≤ 1048576) (w : World) :
    ∃ vs : Array Value, Sem.run Tryz.prog (Instr.makeSlice 32 (.int .i64 (n : Int)) (.int .i64 (n : Int))) w = .ok (.slice (some ⟨w.heap.size, 0, none⟩) n n) (w.alloc (.cells vs 87)) ∧ Row3 (w.alloc (.cells vs 87)) w.heap.size 87 n [] := by
  obtain ⟨i, h1, h2, h3, h4⟩ := info_parts info54
  have := run_make (P := Tryz.prog) w 32 87 i _ Tryz.underlying32 h1 h2 .i64 .i64 (n : Int) (n : Int) (by omega) (Int.le_refl _) (by rw [h4]; omega) (by omega)
  rw [h3] at this
  simp only [Int.toNat_natCast] at this
  exact ⟨_, this, _, new_at _ _, size_madeCells _ _, fun i hi => absurd hi (Nat.not_lt_zero _)⟩

def prT (p : LPr) : Value × Value × Value := (.int .i64 p.1, .int .i64 p.2.1, .int .i64 p.2.2)
set_option maxRecDepth 100000 in
set_option maxHeartbeats 1000000 in
theorem toPS_any (sl : Option Addr) (cap : Nat) (ps : List LPr) (w : World) (hn : ps.length ≤ 1048576) (hz : Prs w sl ps) :
    Calls Tryz.prog 58 #[.slice sl ps.length cap] w fun e w' => e = .returned (.slice (some ⟨w.heap.size, 0, none⟩) ps.length ps.length) ∧ Row3 w' w.heap.size 138 ps.length (ps.map prT) ∧ Below w.heap.size w w' := by
  have HZ := Lib.hid hz
  clear hz
  obtain ⟨vs, hmk, hr0⟩ := make56 ps.length hn w
  have R0 := Lib.hid hr0
  clear hr0
  generalize hN : ps.length = n at *
  have HN := Lib.hid hN
  clear hN
  go_enter Tryz.func58, Tryz.ntmps58
  go_wp2
  go_loopw [4] (fun i wr => ∃ k : Nat, i = .int .i64 k ∧ k ≤ n ∧ Hid (Row3 wr w.heap.size 138 n ((ps.take k).map prT)) ∧ Hid (Below w.heap.size w wr)) (fun i _ => n - (intOf i).toNat)
  case atStart => exact ⟨0, rfl, Nat.zero_le _, R0, bA0 _ _⟩
  case round =>
    obtain ⟨k, rfl, hk, R1, H2⟩ := hrel
    have hk0 : (0 : Int) ≤ (k : Int) := by omega
    by_cases c1 : k < n
    · have c1' : (k : Int) < (n : Int) := by omega
      have hlt : k < ps.length := by rw [HN.out]; exact c1
      obtain ⟨c, o, rfl, Z0⟩ : ∃ c o, sl = some ⟨c, o, none⟩ ∧ PrAt w c o ps := by
        rcases HZ.out with e | h
        · rw [e] at hlt; simp at hlt
        · exact h
      have hc0 := (H2.out.cell Z0.lt).trans (Z0.cell k hlt).1
      have hc1 := (H2.out.cell Z0.lt).trans (Z0.cell k hlt).2.1
      have hc2 := (H2.out.cell Z0.lt).trans (Z0.cell k hlt).2.2
      obtain ⟨a, b, q, hp⟩ : ∃ a b q, ps[k] = (a, b, q) := ⟨_, _, _, rfl⟩
      rw [hp] at hc0 hc1 hc2
      dsimp only at hc0 hc1 hc2
      have ET := Lib.hid (show (ps.take (k + 1)).map prT = (ps.take k).map prT ++ [(.int .i64 a, .int .i64 b, .int .i64 q)] by
        rw [List.take_add_one, List.getElem?_eq_getElem hlt, hp]; simp [prT])
      have LT := Lib.hid (show k = ((ps.take k).map prT).length by simp; omega)
      have LN := Lib.hid (show ((ps.take k).map prT).length < n by rw [← LT.out]; exact c1)
      have E := Lib.hid (toP_any a b q)
      clear hp hlt
      go_wp2_with fail
      refine (E.out _).mono ?_
      rintro e w5 ⟨rfl, b5⟩
      have D5 := Lib.hid (bT H2.out b5)
      have R5 := Lib.hid (R1.out.below b5)
      obtain ⟨⟨v0, g0⟩, f0⟩ := R5.out.there (k * 3) (by omega)
      obtain ⟨⟨v1, g1⟩, f1⟩ := R5.out.there (k * 3 + 1) (by omega)
      obtain ⟨⟨v2, g2⟩, f2⟩ := R5.out.there (k * 3 + 2) (by omega)
      have R6 := Lib.hid (R5.out.step LN.out (.int .i64 a) (.int .i64 b) (.int .i64 q) k LT.out)
      rw [← ET.out] at R6
      have D6 : Hid (Below w.heap.size w (((w5.setCell ⟨w.heap.size, k * 3, none⟩ (.int .i64 a)).setCell ⟨w.heap.size, k * 3 + 1, none⟩ (.int .i64 b)).setCell ⟨w.heap.size, k * 3 + 2, none⟩ (.int .i64 q))) := ((D5.out.setCell (Nat.le_refl _) _).setCell (Nat.le_refl _) _).setCell (Nat.le_refl _) _
      clear b5 R1 R5 ET LT LN
      go_wp2_with fail
      go_roundw
      case rel => exact ⟨k + 1, by go_num, by omega, R6, D6⟩
      case measure => simp [intOf]; omega
    · have c1' : ¬ (k : Int) < (n : Int) := by omega
      have P := Lib.hid (show Row3 wr w.heap.size 138 n (ps.map prT) by have := R1.out; rwa [List.take_of_length_le (by rw [HN.out]; omega)] at this)
      go_wp2
      go_ret
      exact ⟨rfl, P.out, H2.out⟩

def stT (r : LSt) : Value × Value × Value := (.int .i64 r.1, .int .i64 r.2.1, r.2.2.1)
/-- Stations without where their Domains lie. -/
def bareS (rs : List LSt) : List (Int × Int × List Int) := rs.map fun r => (r.1, r.2.1, r.2.2.2)
/-- A station whose Domain has memory of its own, not in block b. -/
def DomOut (b : Nat) (w : World) (r : LSt) : Prop := ∃ g, r.2.2.1 = .slice (some ⟨g, 0, none⟩) r.2.2.2.length r.2.2.2.length ∧ Ints w (some ⟨g, 0, none⟩) r.2.2.2 ∧ b < g ∧ r.2.2.2.length ≤ 1048576
theorem DomOut.below {b : Nat} {w w' : World} {r : LSt} (h : DomOut b w r) (hb : Below w.heap.size w w') : DomOut b w' r := by
  obtain ⟨g, e, hi, hg, hl⟩ := h
  exact ⟨g, e, hi.below hb, hg, hl⟩
theorem DomOut.set {b : Nat} {w : World} {r : LSt} (h : DomOut b w r) (i : Nat) (v : Value) : DomOut b (w.setCell ⟨b, i, none⟩ v) r := by
  obtain ⟨g, e, hi, hg, hl⟩ := h
  exact ⟨g, e, hi.set (Nat.ne_of_gt hg) i v, hg, hl⟩
theorem DomOut.din {b : Nat} {w : World} {r : LSt} (h : DomOut b w r) : DomIn w r := by
  obtain ⟨g, e, hi, hg, hl⟩ := h
  exact ⟨_, _, e, hi, hl⟩

set_option maxRecDepth 100000 in
set_option maxHeartbeats 1000000 in
theorem toSS_any (sl : Option Addr) (cap : Nat) (rs : List LSt) (w : World) (hn : rs.length ≤ 1048576) (hz : Sts w sl rs) :
    Calls Tryz.prog 57 #[.slice sl rs.length cap] w fun e w' => ∃ rs' : List LSt, e = .returned (.slice (some ⟨w.heap.size, 0, none⟩) rs.length rs.length) ∧ bareS rs' = bareS rs ∧ Row3 w' w.heap.size 87 rs.length (rs'.map stT) ∧ (∀ r ∈ rs', DomOut w.heap.size w' r) ∧ Below w.heap.size w w' := by
  have HZ := Lib.hid hz
  clear hz
  obtain ⟨vs, hmk, hr0⟩ := make54 rs.length hn w
  have R0 := Lib.hid hr0
  clear hr0
  generalize hN : rs.length = n at *
  have HN := Lib.hid hN
  clear hN
  go_enter Tryz.func57, Tryz.ntmps57
  go_wp2
  go_loopw [4] (fun i wr => ∃ (k : Nat) (rs' : List LSt), i = .int .i64 k ∧ k ≤ n ∧ Hid (bareS rs' = bareS (rs.take k)) ∧ Hid (Row3 wr w.heap.size 87 n (rs'.map stT)) ∧ Hid (∀ r ∈ rs', DomOut w.heap.size wr r) ∧ Hid (Below w.heap.size w wr)) (fun i _ => n - (intOf i).toNat)
  case atStart => exact ⟨0, [], rfl, Nat.zero_le _, rfl, R0, (fun r hr => by cases hr), bA0 _ _⟩
  case round =>
    obtain ⟨k, rs', rfl, hk, EB, R1, DO, H2⟩ := hrel
    have hk0 : (0 : Int) ≤ (k : Int) := by omega
    by_cases c1 : k < n
    · have c1' : (k : Int) < (n : Int) := by omega
      have hlt : k < rs.length := by rw [HN.out]; exact c1
      obtain ⟨c, o, rfl, Z0⟩ : ∃ c o, sl = some ⟨c, o, none⟩ ∧ StAt w c o rs := by
        rcases HZ.out.row with e | h
        · rw [e] at hlt; simp at hlt
        · exact h
      have hc0 := (H2.out.cell Z0.lt).trans (Z0.cell k hlt).1
      have hc1 := (H2.out.cell Z0.lt).trans (Z0.cell k hlt).2.1
      have hc2 := (H2.out.cell Z0.lt).trans (Z0.cell k hlt).2.2
      obtain ⟨sld, capd, ed, hi, hdl⟩ := (HZ.out.dom rs[k] (List.getElem_mem hlt)).below (show Below w.heap.size w wr from H2.out)
      obtain ⟨x, y, v, zs, hp⟩ : ∃ x y v zs, rs[k] = (x, y, v, zs) := ⟨_, _, _, _, rfl⟩
      rw [hp] at hc0 hc1 hc2 ed hi hdl
      dsimp only at hc0 hc1 hc2 ed hi hdl
      rw [ed] at hc2
      have EBn := Lib.hid (show ∀ v', bareS (rs' ++ [(x, y, v', zs)]) = bareS (rs.take (k + 1)) by
        intro v'
        rw [List.take_add_one, List.getElem?_eq_getElem hlt, hp]
        have := EB.out
        unfold bareS at this ⊢
        rw [List.map_append, this]
        simp)
      have LT := Lib.hid (show k = (rs'.map stT).length by
        have := congrArg List.length EB.out
        simp only [bareS, List.length_map, List.length_take] at this ⊢
        omega)
      have LN := Lib.hid (show (rs'.map stT).length < n by rw [← LT.out]; exact c1)
      have E := Lib.hid (toS_any x y sld capd zs wr hdl hi)
      have HDL := Lib.hid hdl
      have hws := H2.out.size
      clear hp hlt ed hi hdl
      generalize hq : zs.length = q at *
      have HQ := Lib.hid hq
      clear hq
      go_wp2_with fail
      refine E.out.mono ?_
      rintro e w5 ⟨g, rfl, i5, hg5, b5⟩
      have D5 := Lib.hid (bT H2.out b5)
      have R5 := Lib.hid (R1.out.below b5)
      have hb1 := R1.out.lt
      obtain ⟨⟨v0, g0⟩, f0⟩ := R5.out.there (k * 3) (by omega)
      obtain ⟨⟨v1, g1⟩, f1⟩ := R5.out.there (k * 3 + 1) (by omega)
      obtain ⟨⟨v2, g2⟩, f2⟩ := R5.out.there (k * 3 + 2) (by omega)
      have R6 := Lib.hid (R5.out.step LN.out (.int .i64 x) (.int .i64 y) (.slice (some ⟨g, 0, none⟩) q q) k LT.out)
      have D6 : Hid (Below w.heap.size w (((w5.setCell ⟨w.heap.size, k * 3, none⟩ (.int .i64 x)).setCell ⟨w.heap.size, k * 3 + 1, none⟩ (.int .i64 y)).setCell ⟨w.heap.size, k * 3 + 2, none⟩ (.slice (some ⟨g, 0, none⟩) q q))) := ((D5.out.setCell (Nat.le_refl _) _).setCell (Nat.le_refl _) _).setCell (Nat.le_refl _) _
      have R7 : Hid (Row3 (((w5.setCell ⟨w.heap.size, k * 3, none⟩ (.int .i64 x)).setCell ⟨w.heap.size, k * 3 + 1, none⟩ (.int .i64 y)).setCell ⟨w.heap.size, k * 3 + 2, none⟩ (.slice (some ⟨g, 0, none⟩) q q)) w.heap.size 87 n ((rs' ++ [(x, y, Value.slice (some ⟨g, 0, none⟩) q q, zs)]).map stT)) := by
        rw [List.map_append]; exact R6.out
      have DN : Hid (∀ r ∈ rs' ++ [(x, y, Value.slice (some ⟨g, 0, none⟩) q q, zs)], DomOut w.heap.size (((w5.setCell ⟨w.heap.size, k * 3, none⟩ (.int .i64 x)).setCell ⟨w.heap.size, k * 3 + 1, none⟩ (.int .i64 y)).setCell ⟨w.heap.size, k * 3 + 2, none⟩ (.slice (some ⟨g, 0, none⟩) q q)) r) := fun r hr => by
        refine ((DomOut.set ?_ _ _).set _ _).set _ _
        rcases List.mem_append.1 hr with hr | hr
        · exact (DO.out r hr).below b5
        · simp at hr; subst hr
          exact ⟨g, by rw [HQ.out], i5, by omega, by rw [HQ.out]; exact HDL.out⟩
      have EB7 := Lib.hid (EBn.out (.slice (some ⟨g, 0, none⟩) q q))
      clear b5 R1 R5 R6 EBn LT LN i5 DO E EB
      go_wp2_with fail
      go_roundw
      case rel => exact ⟨k + 1, _, by go_num, by omega, EB7, R7, DN, D6⟩
      case measure => simp [intOf]; omega
    · have c1' : ¬ (k : Int) < (n : Int) := by omega
      have P := Lib.hid (show bareS rs' = bareS rs by have := EB.out; rwa [List.take_of_length_le (by rw [HN.out]; omega)] at this)
      go_wp2
      go_ret
      exact ⟨rfl, rs', P.out, R1.out, fun a b c d h => DO.out (a, b, c, d) h, H2.out⟩
theorem DomOut.setLow {b : Nat} {w : World} {r : LSt} (h : DomOut b w r) {b' : Nat} (hb : b' < b) (i : Nat) (v : Value) : DomOut b (w.setCell ⟨b', i, none⟩ v) r := by
  obtain ⟨g, e, hi, hg, hl⟩ := h
  exact ⟨g, e, hi.set (by omega) i v, hg, hl⟩
theorem Row3.setLow {w : World} {b : Nat} {t : TypeId} {n : Nat} {ts : List (Value × Value × Value)} (h : Row3 w b t n ts) {b' : Nat} (hb : b' < b) (i : Nat) (v : Value) : Row3 (w.setCell ⟨b', i, none⟩ v) b t n ts := by
  obtain ⟨vs, h1, h2, h3⟩ := h
  exact ⟨vs, (Below.heap_setCell _ _ _ _ (show b ≠ b' by omega)).trans h1, h2, h3⟩
theorem Row3.sts {w : World} {b n : Nat} {rs : List LSt} (h : Row3 w b 87 n (rs.map stT)) (hd : ∀ r ∈ rs, DomOut b w r) : Sts w (some ⟨b, 0, none⟩) rs := by
  refine ⟨.inr ⟨b, 0, rfl, h.lt, fun i hi => ?_⟩, fun r hr => (hd r hr).din⟩
  have := h.at i (by simpa using hi)
  simpa [stT] using this
theorem Row3.prs {w : World} {b n : Nat} {ps : List LPr} (h : Row3 w b 138 n (ps.map prT)) : Prs w (some ⟨b, 0, none⟩) ps := by
  refine .inr ⟨b, 0, rfl, h.lt, fun i hi => ?_⟩
  have := h.at i (by simpa using hi)
  simpa [prT] using this
theorem three_new (w : World) (o0 o1 o2 : Obj) : (((w.alloc o0).alloc o1).alloc o2).heap[w.heap.size]? = some o0 ∧ (((w.alloc o0).alloc o1).alloc o2).heap[w.heap.size + 1]? = some o1 ∧ (((w.alloc o0).alloc o1).alloc o2).heap[w.heap.size + 2]? = some o2 ∧ (((w.alloc o0).alloc o1).alloc o2).heap.size = w.heap.size + 3 := by
  have s1 : (w.alloc o0).heap.size = w.heap.size + 1 := by simp
  have s2 : ((w.alloc o0).alloc o1).heap.size = w.heap.size + 2 := by simp
  have a1 := new_at (w.alloc o0) o1
  rw [s1] at a1
  have a2 := new_at ((w.alloc o0).alloc o1) o2
  rw [s2] at a2
  exact ⟨(Below.heap_alloc _ _ _ (by rw [s2]; omega)).trans ((Below.heap_alloc _ _ _ (by rw [s1]; omega)).trans (new_at w o0)), (Below.heap_alloc _ _ _ (by rw [s2]; omega)).trans a1, a2, by simp⟩
theorem bareS_len {a b : List LSt} (h : bareS a = bareS b) : a.length = b.length := by have := congrArg List.length h; simpa [bareS] using this

set_option maxRecDepth 100000 in
set_option maxHeartbeats 1000000 in
/-- toTable. -/
theorem toT_any (sl : Option Addr) (cap : Nat) (sl2 : Option Addr) (cap2 : Nat) (rs : List LSt) (ps : List LPr) (w : World) (hn : rs.length ≤ 1048576) (hm : ps.length ≤ 1048576) (hz : Sts w sl rs) (hp : Prs w sl2 ps) :
    Calls Tryz.prog 25 #[TV sl rs.length cap sl2 ps.length cap2] w fun e w' => ∃ b1 b2 rs', e = .returned (TV (some ⟨b1, 0, none⟩) rs.length rs.length (some ⟨b2, 0, none⟩) ps.length ps.length) ∧ bareS rs' = bareS rs ∧ Sts w' (some ⟨b1, 0, none⟩) rs' ∧ Prs w' (some ⟨b2, 0, none⟩) ps ∧ Below w.heap.size w w' := by
  have E1 : Hid (∀ W, Below w.heap.size w W → Calls Tryz.prog 57 #[.slice sl rs.length cap] W fun e w' => ∃ rs' : List LSt, e = .returned (.slice (some ⟨W.heap.size, 0, none⟩) rs.length rs.length) ∧ bareS rs' = bareS rs ∧ Row3 w' W.heap.size 87 rs.length (rs'.map stT) ∧ (∀ r ∈ rs', DomOut W.heap.size w' r) ∧ Below W.heap.size W w') := fun W hW => toSS_any sl cap rs W hn (hz.below hW)
  have E2 : Hid (∀ W, Below w.heap.size w W → Calls Tryz.prog 58 #[.slice sl2 ps.length cap2] W fun e w' => e = .returned (.slice (some ⟨W.heap.size, 0, none⟩) ps.length ps.length) ∧ Row3 w' W.heap.size 138 ps.length (ps.map prT) ∧ Below W.heap.size W w') := fun W hW => toPS_any sl2 cap2 ps W hm (hp.below hW)
  clear hz hp
  generalize rs.length = n at *
  generalize ps.length = m at *
  go_enter Tryz.func25, Tryz.ntmps25
  go_wp2_with fail
  refine (E1.out _ (bA (bA (bA0 _ _) _) _)).mono ?_
  rintro e w1 ⟨rs', rfl, eb, r1, d1, b1⟩
  obtain ⟨n0, n1, n2, n3⟩ := three_new w (.cells #[.slice sl n cap, .slice sl2 m cap2] 25) (.cells #[.slice none 0 0, .slice none 0 0] 35) (.cells #[.slice none 0 0, .slice none 0 0] 35)
  have BB := Lib.hid (bT (bA (bA (bA0 w (.cells #[.slice sl n cap, .slice sl2 m cap2] 25)) (.cells #[.slice none 0 0, .slice none 0 0] 35)) (.cells #[.slice none 0 0, .slice none 0 0] 35)) b1)
  rw [n3] at r1 d1 b1 ⊢
  have hz := b1.size
  rw [n3] at hz
  have m0 := (b1.block w.heap.size (by omega)).trans n0
  have m1 := (b1.block (w.heap.size + 1) (by omega)).trans n1
  have m2 := (b1.block (w.heap.size + 2) (by omega)).trans n2
  have R1 := Lib.hid r1
  have DD := Lib.hid d1
  have EB := Lib.hid eb
  clear r1 d1 b1 eb n0 n1 n2 n3
  have a0 : w1.cell? ⟨w.heap.size, 1, none⟩ = some (.slice sl2 m cap2) := by simp [World.cell?, m0]
  have a2 : w1.cell? ⟨w.heap.size + 2, 0, none⟩ = some (.slice none 0 0) ∧ w1.frozen? ⟨w.heap.size + 2, 0, none⟩ = false := by simp [World.cell?, World.frozen?, m2]
  obtain ⟨a2, a2f⟩ := a2
  have M0 := Lib.hid m0
  have M1 := Lib.hid m1
  have M2 := Lib.hid m2
  have B1 := Lib.hid (BB.out.setCell (p := ⟨w.heap.size + 2, 0, none⟩) (Nat.le_add_right _ _) (.slice (some ⟨w.heap.size + 3, 0, none⟩) n n))
  clear m0 m1 m2
  go_wp2_with fail
  refine (E2.out _ B1.out).mono ?_
  rintro e w2 ⟨rfl, r2, b2⟩
  have hsz : (w1.setCell ⟨w.heap.size + 1 + 1, 0, none⟩ (.slice (some ⟨w.heap.size + 3, 0, none⟩) n n)).heap.size = w1.heap.size := by simp [World.setCell]
  rw [hsz] at r2
  have b2s := b2.size
  have k2 := (b2.block (w.heap.size + 2) (by rw [hsz]; omega)).trans (heap_setCell_same w1 (w.heap.size + 2) 0 _ 35 (.slice (some ⟨w.heap.size + 3, 0, none⟩) n n) M2.out)
  have k1 := (b2.block (w.heap.size + 1) (by rw [hsz]; omega)).trans ((Below.heap_setCell _ _ _ _ (show w.heap.size + 1 ≠ w.heap.size + 1 + 1 by omega)).trans M1.out)
  have R3 := Lib.hid ((R1.out.setLow (b' := w.heap.size + 1 + 1) (by omega) 0 (.slice (some ⟨w.heap.size + 3, 0, none⟩) n n)).below b2)
  have D3 := Lib.hid (fun r hr => ((DD.out r hr).setLow (b' := w.heap.size + 1 + 1) (by omega) 0 (.slice (some ⟨w.heap.size + 3, 0, none⟩) n n)).below b2)
  have P3 := Lib.hid r2
  have B3 := Lib.hid (bT B1.out b2)
  rw [hsz] at b2s ⊢
  clear R1 DD r2 b2 a0 a2 a2f M0 M1 M2 B1 BB hsz
  have q0 : w2.cell? ⟨w.heap.size + 1 + 1, 0, none⟩ = some (.slice (some ⟨w.heap.size + 3, 0, none⟩) n n) ∧ w2.cell? ⟨w.heap.size + 1 + 1, 1, none⟩ = some (.slice none 0 0) ∧ (∀ o, w2.frozen? ⟨w.heap.size + 1 + 1, o, none⟩ = false) := by
    refine ⟨?_, ?_, fun o => ?_⟩ <;> simp [World.cell?, World.frozen?, k2]
  have q1 : w2.cell? ⟨w.heap.size + 1, 0, none⟩ = some (.slice none 0 0) ∧ w2.cell? ⟨w.heap.size + 1, 1, none⟩ = some (.slice none 0 0) ∧ (∀ o, w2.frozen? ⟨w.heap.size + 1, o, none⟩ = false) := by
    refine ⟨?_, ?_, fun o => ?_⟩ <;> simp [World.cell?, World.frozen?, k1]
  obtain ⟨q00, q01, q0f⟩ := q0
  obtain ⟨q10, q11, q1f⟩ := q1
  clear k1 k2
  generalize w1.heap.size = b2 at *
  have P : Hid (∃ b1 b2' rs', (TV (some ⟨w.heap.size + 3, 0, none⟩) n n (some ⟨b2, 0, none⟩) m m) = (TV (some ⟨b1, 0, none⟩) n n (some ⟨b2', 0, none⟩) m m) ∧ bareS rs' = bareS rs ∧ Sts (((w2.setCell ⟨w.heap.size + 1 + 1, 1, none⟩ (.slice (some ⟨b2, 0, none⟩) m m)).setCell ⟨w.heap.size + 1, 0, none⟩ (.slice (some ⟨w.heap.size + 3, 0, none⟩) n n)).setCell ⟨w.heap.size + 1, 1, none⟩ (.slice (some ⟨b2, 0, none⟩) m m)) (some ⟨b1, 0, none⟩) rs' ∧ Prs (((w2.setCell ⟨w.heap.size + 1 + 1, 1, none⟩ (.slice (some ⟨b2, 0, none⟩) m m)).setCell ⟨w.heap.size + 1, 0, none⟩ (.slice (some ⟨w.heap.size + 3, 0, none⟩) n n)).setCell ⟨w.heap.size + 1, 1, none⟩ (.slice (some ⟨b2, 0, none⟩) m m)) (some ⟨b2', 0, none⟩) ps ∧ Below w.heap.size w (((w2.setCell ⟨w.heap.size + 1 + 1, 1, none⟩ (.slice (some ⟨b2, 0, none⟩) m m)).setCell ⟨w.heap.size + 1, 0, none⟩ (.slice (some ⟨w.heap.size + 3, 0, none⟩) n n)).setCell ⟨w.heap.size + 1, 1, none⟩ (.slice (some ⟨b2, 0, none⟩) m m))) := by
    refine ⟨w.heap.size + 3, b2, rs', rfl, EB.out, ?_, ?_, ?_⟩
    · exact (((R3.out.setLow (by omega) _ _).setLow (by omega) _ _).setLow (by omega) _ _).sts (fun r hr => (((D3.out r hr).setLow (by omega) _ _).setLow (by omega) _ _).setLow (by omega) _ _)
    · exact (((P3.out.setLow (by omega) _ _).setLow (by omega) _ _).setLow (by omega) _ _).prs
    · exact ((B3.out.setCell (Nat.le_add_right _ 2) _).setCell (Nat.le_add_right _ 1) _).setCell (Nat.le_add_right _ 1) _
  clear R3 D3 P3 B3
  go_wp2
  obtain ⟨b1, b2', rs9, e9, h9⟩ := P.out
  refine bodyPost_ret (v := TV (some ⟨w.heap.size + 3, 0, none⟩) n n (some ⟨b2, 0, none⟩) m m) (by simp [results, Tryz.results25, go_sem, q10, q11]) rfl ⟨b1, b2', rs9, by rw [e9], h9⟩
end Go.Proofs.YtanoklpffenljaaGreatDoor
