/-
  HOW A TABLE LIES: its stations and pairs; an Id is sought.
-/
import Derived.Test.YtllaiigjkchahaaDoorAb
import Derived.Laws.AppendOwn
namespace Go.Proofs.YtllaiigjkchahaaDoor
open Go.RowKit
set_option linter.unusedVariables false

/-- Where x stands first, or -1. -/
def posOf (zs : List Int) (x : Int) : Int := if zs.idxOf x < zs.length then (zs.idxOf x : Int) else -1
def NotIn (zs : List Int) (x : Int) (k : Nat) : Prop := ∀ i, i < k → zs.getD i 0 ≠ x
theorem idxOf_hit (zs : List Int) (x : Int) (k : Nat) (h : k < zs.length) (hx : zs.getD k 0 = x) (hn : NotIn zs x k) : zs.idxOf x = k := by
  induction zs generalizing k with
  | nil => simp at h
  | cons a r ih =>
    cases k with
    | zero => simp at hx; simp [hx]
    | succ k =>
      have ha : a ≠ x := by have := hn 0 (by omega); simpa using this
      rw [List.idxOf_cons, show (a == x) = false by simpa using ha]
      simp only [cond_false]
      rw [ih k (by simpa using h) (by simpa using hx) (fun i hi => by have := hn (i + 1) (by omega); simpa using this)]
theorem posOf_hit (zs : List Int) (x : Int) (k : Nat) (h : k < zs.length) (hx : zs.getD k 0 = x) (hn : NotIn zs x k) : posOf zs x = (k : Int) := by
  unfold posOf; rw [idxOf_hit zs x k h hx hn, if_pos h]
theorem notIn_mem {zs : List Int} {x : Int} (hn : NotIn zs x zs.length) : x ∉ zs := by
  intro hm
  obtain ⟨i, hi, e⟩ := List.getElem_of_mem hm
  have := hn i hi
  simp [hi] at this
  exact this e
theorem posOf_miss {zs : List Int} {x : Int} (h : x ∉ zs) : posOf zs x = -1 := by
  unfold posOf
  rw [if_neg]
  rw [List.idxOf_lt_length_iff]; exact h
theorem posOf_neg (zs : List Int) (x : Int) : posOf zs x < 0 ↔ x ∉ zs := by
  unfold posOf
  by_cases h : x ∈ zs
  · rw [if_pos (List.idxOf_lt_length_iff.2 h)]; simp [h]
  · rw [if_neg (fun e => h (List.idxOf_lt_length_iff.1 e))]; simp [h]
theorem posOf_le (zs : List Int) (x : Int) : -1 ≤ posOf zs x ∧ posOf zs x < zs.length := by
  unfold posOf
  split <;> omega


/-- A station as it lies: Id, Score, the slice of its Domain, its channels. -/
abbrev LSt := Int × Int × Value × List Int
/-- A pair: A, B, Kind. -/
abbrev LPr := Int × Int × Int
/-- Stations lie from cell o of block c on. -/
structure StAt (w : World) (c o : Nat) (rs : List LSt) : Prop where
  lt : c < w.heap.size
  cell : ∀ i (h : i < rs.length), w.cell? ⟨c, o + i * 3, none⟩ = some (.int .i64 rs[i].1) ∧ w.cell? ⟨c, o + i * 3 + 1, none⟩ = some (.int .i64 rs[i].2.1) ∧ w.cell? ⟨c, o + i * 3 + 2, none⟩ = some rs[i].2.2.1
def DomIn (w : World) (r : LSt) : Prop := ∃ sl cap, r.2.2.1 = .slice sl r.2.2.2.length cap ∧ Ints w sl r.2.2.2 ∧ r.2.2.2.length ≤ 1048576
/-- A slice of the stations rs. -/
structure Sts (w : World) (sl : Option Addr) (rs : List LSt) : Prop where
  row : rs = [] ∨ ∃ c o, sl = some ⟨c, o, none⟩ ∧ StAt w c o rs
  dom : ∀ r ∈ rs, DomIn w r
structure PrAt (w : World) (c o : Nat) (ps : List LPr) : Prop where
  lt : c < w.heap.size
  cell : ∀ i (h : i < ps.length), w.cell? ⟨c, o + i * 3, none⟩ = some (.int .i64 ps[i].1) ∧ w.cell? ⟨c, o + i * 3 + 1, none⟩ = some (.int .i64 ps[i].2.1) ∧ w.cell? ⟨c, o + i * 3 + 2, none⟩ = some (.int .i64 ps[i].2.2)
def Prs (w : World) (sl : Option Addr) (ps : List LPr) : Prop := ps = [] ∨ ∃ c o, sl = some ⟨c, o, none⟩ ∧ PrAt w c o ps
theorem StAt.below {w w' : World} {c o : Nat} {rs : List LSt} (h : StAt w c o rs) (hb : Below w.heap.size w w') : StAt w' c o rs :=
  ⟨Nat.lt_of_lt_of_le h.lt hb.size, fun i hi => ⟨(hb.cell h.lt).trans (h.cell i hi).1, (hb.cell h.lt).trans (h.cell i hi).2.1, (hb.cell h.lt).trans (h.cell i hi).2.2⟩⟩
theorem PrAt.below {w w' : World} {c o : Nat} {rs : List LPr} (h : PrAt w c o rs) (hb : Below w.heap.size w w') : PrAt w' c o rs :=
  ⟨Nat.lt_of_lt_of_le h.lt hb.size, fun i hi => ⟨(hb.cell h.lt).trans (h.cell i hi).1, (hb.cell h.lt).trans (h.cell i hi).2.1, (hb.cell h.lt).trans (h.cell i hi).2.2⟩⟩
theorem DomIn.below {w w' : World} {r : LSt} (h : DomIn w r) (hb : Below w.heap.size w w') : DomIn w' r := by
  obtain ⟨sl, cap, e, hi, hl⟩ := h
  exact ⟨sl, cap, e, hi.below hb, hl⟩
theorem Sts.below {w w' : World} {sl : Option Addr} {rs : List LSt} (h : Sts w sl rs) (hb : Below w.heap.size w w') : Sts w' sl rs := by
  refine ⟨?_, fun r hr => (h.dom r hr).below hb⟩
  rcases h.row with h | ⟨c, o, e, h⟩
  · exact .inl h
  · exact .inr ⟨c, o, e, h.below hb⟩
theorem Prs.below {w w' : World} {sl : Option Addr} {rs : List LPr} (h : Prs w sl rs) (hb : Below w.heap.size w w') : Prs w' sl rs := by
  rcases h with h | ⟨c, o, e, h⟩
  · exact .inl h
  · exact .inr ⟨c, o, e, h.below hb⟩
def idsL (rs : List LSt) : List Int := rs.map fun r => r.1
theorem idsL_len (rs : List LSt) : (idsL rs).length = rs.length := by simp [idsL]
theorem idsL_get (rs : List LSt) (i : Nat) (h : i < rs.length) : (idsL rs).getD i 0 = rs[i].1 := by simp [idsL, h]
abbrev TV (sl : Option Addr) (n cap : Nat) (sl2 : Option Addr) (m cap2 : Nat) : Value := .agg #[.slice sl n cap, .slice sl2 m cap2]


end Go.Proofs.YtllaiigjkchahaaDoor
