/-
  HOW A TABLE LIES: its stations and pairs; an Id is sought.
-/
import Derived.Test.YtgfclllfkpblnaaAb
import Derived.Laws.AppendOwn
namespace Go.Proofs.Ytgfclllfkpblnaa
open Go.RowKit
set_option linter.unusedVariables false

/-- Where x stands first, or -1. -/
def posOf (zs : List Int) (x : Int) : Int := if zs.idxOf x < zs.length then (zs.idxOf x : Int) else -1
def NotIn (zs : List Int) (x : Int) (k : Nat) : Prop := ∀ i, i < k → zs.getD i 0 ≠ x
theorem idxOf_hit (zs : List Int) (x : Int) (k : Nat) (h : k < zs.length) (hx : zs.getD k 0 = x) (hn : NotIn zs x k) : zs.idxOf x = k := by
  induction zs generalizing k with
  | nil => simp at h
  | cons a r ih =>
    cases k with
    | zero => simp at hx; simp [hx]
    | succ k =>
      have ha : a ≠ x := by have := hn 0 (by omega); simpa using this
      rw [List.idxOf_cons, show (a == x) = false by simpa using ha]
      simp only [cond_false]
      rw [ih k (by simpa using h) (by simpa using hx) (fun i hi => by have := hn (i + 1) (by omega); simpa using this)]
theorem posOf_hit (zs : List Int) (x : Int) (k : Nat) (h : k < zs.length) (hx : zs.getD k 0 = x) (hn : NotIn zs x k) : posOf zs x = (k : Int) := by
  unfold posOf; rw [idxOf_hit zs x k h hx hn, if_pos h]
theorem notIn_mem {zs : List Int} {x : Int} (hn : NotIn zs x zs.length) : x ∉ zs := by
  intro hm
  obtain ⟨i, hi, e⟩ := List.getElem_of_mem hm
  have := hn i hi
  simp [hi] at this
  exact this e
theorem posOf_miss {zs : List Int} {x : Int} (h : x ∉ zs) : posOf zs x = -1 := by
  unfold posOf
  rw [if_neg]
  rw [List.idxOf_lt_length_iff]; exact h
theorem posOf_neg (zs : List Int) (x : Int) : posOf zs x < 0 ↔ x ∉ zs := by
  unfold posOf
  by_cases h : x ∈ zs
  · rw [if_pos (List.idxOf_lt_length_iff.2 h)]; simp [h]
  · rw [if_neg (fun e => h (List.idxOf_lt_length_iff.1 e))]; simp [h]
theorem posOf_le (zs : List Int) (x : Int) : -1 ≤ posOf zs x ∧ posOf zs x < zs.length := by
  unfold posOf
  split <;> omega

set_option maxHeartbeats 400000 in
theorem ix_nil (sl : Option Addr) (cap : Nat) (x : Int) (w : World) :
    Calls Try.prog 44 #[.slice sl 0 cap, .int .i64 x] w fun e w' => e = .returned (.int .i64 (-1)) ∧ w' = w := by
  go_enter Try.func44, Try.ntmps44
  go_wp2
  refine wp_loop_rounds 1 ?_
  rw [rounds_succ]
  go_wp2
  go_ret
  exact ⟨rfl, rfl⟩
set_option maxHeartbeats 400000 in
theorem ix_some (c o cap : Nat) (x : Int) (zs : List Int) (w : World) (hn : zs.length ≤ 1048576) (hz : IntsAt w c o zs) :
    Calls Try.prog 44 #[.slice (some ⟨c, o, none⟩) zs.length cap, .int .i64 x] w fun e w' => e = .returned (.int .i64 (posOf zs x)) ∧ Below w.heap.size w w' := by
  have HZ := Lib.hid hz
  clear hz
  generalize hN : zs.length = n at *
  have HN := Lib.hid hN
  clear hN
  go_enter Try.func44, Try.ntmps44
  go_wp2
  go_loopw [8] (fun i wr => ∃ k : Nat, i = .int .i64 k ∧ k ≤ n ∧ Hid (NotIn zs x k) ∧ Hid (Below w.heap.size w wr)) (fun i _ => n - (intOf i).toNat)
  case atStart => exact ⟨0, rfl, Nat.zero_le _, fun i h => by omega, Below.refl _ _⟩
  case round =>
    obtain ⟨k, rfl, hk, H1, H2⟩ := hrel
    have hk0 : (0 : Int) ≤ (k : Int) := by omega
    by_cases h1 : k < n
    · have h1' : (k : Int) < (n : Int) := by omega
      have hlt : k < zs.length := by rw [HN.out]; exact h1
      have hc : wr.cell? ⟨c, o + k, none⟩ = some (.int .i64 (zs.getD k 0)) := (H2.out.cell HZ.out.1).trans (HZ.out.2 k hlt)
      by_cases a4 : zs.getD k 0 = x
      · have HF := Lib.hid (posOf_hit zs x k hlt a4 H1.out)
        have a5 : (x == zs.getD k 0) = true := by rw [beq_iff_eq]; exact a4.symm
        clear hlt
        generalize zs.getD k 0 = z at *
        go_wp2
        go_ret
        exact ⟨by rw [HF.out]; rfl, H2.out⟩
      · have HS : Hid (NotIn zs x (k + 1)) := fun i h2 => by
          by_cases e : i = k
          · subst e; exact a4
          · exact H1.out i (by omega)
        have a5 : (x == zs.getD k 0) = false := by rw [beq_eq_false_iff_ne]; exact fun e => a4 e.symm
        clear hlt
        generalize zs.getD k 0 = z at *
        go_wp2
        go_roundw
        case rel => exact ⟨k + 1, by go_num, by omega, HS, H2⟩
        case measure => simp [intOf]; omega
    · have h1' : ¬ (k : Int) < (n : Int) := by omega
      have HE := Lib.hid (posOf_miss (notIn_mem (zs := zs) (x := x) (by have := H1.out; rwa [show k = zs.length by rw [HN.out]; omega] at this)))
      go_wp2
      go_ret
      exact ⟨by rw [HE.out]; rfl, H2.out⟩
theorem ix_any (sl : Option Addr) (cap : Nat) (x : Int) (zs : List Int) (w : World) (hn : zs.length ≤ 1048576) (hz : Ints w sl zs) :
    Calls Try.prog 44 #[.slice sl zs.length cap, .int .i64 x] w fun e w' => e = .returned (.int .i64 (posOf zs x)) ∧ Below w.heap.size w w' := by
  rcases hz with rfl | ⟨c, o, rfl, h⟩
  · refine (ix_nil sl cap x w).mono ?_
    rintro e w' ⟨rfl, rfl⟩
    exact ⟨rfl, Below.refl _ _⟩
  · exact ix_some c o cap x zs w hn h
set_option maxHeartbeats 400000 in
theorem has_any (sl : Option Addr) (cap : Nat) (x : Int) (zs : List Int) (w : World) (hn : zs.length ≤ 1048576) (hz : Ints w sl zs) :
    Calls Try.prog 36 #[.slice sl zs.length cap, .int .i64 x] w fun e w' => e = .returned (.bool (B (x ∈ zs))) ∧ Below w.heap.size w w' := by
  have E := Lib.hid (ix_any sl cap x zs w hn hz)
  have hb := posOf_neg zs x
  by_cases hx : x ∈ zs
  · have h0 : 0 ≤ posOf zs x := by by_cases h : posOf zs x < 0; exact absurd hx (hb.1 h); omega
    rw [B_yes hx]
    clear hz hn hb hx
    generalize posOf zs x = r at *
    generalize zs.length = n at *
    go_enter Try.func36, Try.ntmps36
    go_wp2_with fail
    refine E.out.mono ?_
    rintro e w1 ⟨rfl, b1⟩
    go_wp2
    go_ret
    exact ⟨rfl, b1⟩
  · have h0 : decide (0 ≤ posOf zs x) = false := by have := hb.2 hx; rw [decide_eq_false_iff_not]; omega
    rw [B_no hx]
    clear hz hn hb hx
    generalize posOf zs x = r at *
    generalize zs.length = n at *
    go_enter Try.func36, Try.ntmps36
    go_wp2_with fail
    refine E.out.mono ?_
    rintro e w1 ⟨rfl, b1⟩
    go_wp2
    go_ret
    exact ⟨rfl, b1⟩

/-- A station as it lies: Id, Score, the slice of its Domain, its channels. -/
abbrev LSt := Int × Int × Value × List Int
/-- A pair: A, B, Kind. -/
abbrev LPr := Int × Int × Int
/-- Stations lie from cell o of block c on. -/
structure StAt (w : World) (c o : Nat) (rs : List LSt) : Prop where
  lt : c < w.heap.size
  cell : ∀ i (h : i < rs.length), w.cell? ⟨c, o + i * 3, none⟩ = some (.int .i64 rs[i].1) ∧ w.cell? ⟨c, o + i * 3 + 1, none⟩ = some (.int .i64 rs[i].2.1) ∧ w.cell? ⟨c, o + i * 3 + 2, none⟩ = some rs[i].2.2.1
def DomIn (w : World) (r : LSt) : Prop := ∃ sl cap, r.2.2.1 = .slice sl r.2.2.2.length cap ∧ Ints w sl r.2.2.2 ∧ r.2.2.2.length ≤ 1048576
/-- A slice of the stations rs. -/
structure Sts (w : World) (sl : Option Addr) (rs : List LSt) : Prop where
  row : rs = [] ∨ ∃ c o, sl = some ⟨c, o, none⟩ ∧ StAt w c o rs
  dom : ∀ r ∈ rs, DomIn w r
structure PrAt (w : World) (c o : Nat) (ps : List LPr) : Prop where
  lt : c < w.heap.size
  cell : ∀ i (h : i < ps.length), w.cell? ⟨c, o + i * 3, none⟩ = some (.int .i64 ps[i].1) ∧ w.cell? ⟨c, o + i * 3 + 1, none⟩ = some (.int .i64 ps[i].2.1) ∧ w.cell? ⟨c, o + i * 3 + 2, none⟩ = some (.int .i64 ps[i].2.2)
def Prs (w : World) (sl : Option Addr) (ps : List LPr) : Prop := ps = [] ∨ ∃ c o, sl = some ⟨c, o, none⟩ ∧ PrAt w c o ps
theorem StAt.below {w w' : World} {c o : Nat} {rs : List LSt} (h : StAt w c o rs) (hb : Below w.heap.size w w') : StAt w' c o rs :=
  ⟨Nat.lt_of_lt_of_le h.lt hb.size, fun i hi => ⟨(hb.cell h.lt).trans (h.cell i hi).1, (hb.cell h.lt).trans (h.cell i hi).2.1, (hb.cell h.lt).trans (h.cell i hi).2.2⟩⟩
theorem PrAt.below {w w' : World} {c o : Nat} {rs : List LPr} (h : PrAt w c o rs) (hb : Below w.heap.size w w') : PrAt w' c o rs :=
  ⟨Nat.lt_of_lt_of_le h.lt hb.size, fun i hi => ⟨(hb.cell h.lt).trans (h.cell i hi).1, (hb.cell h.lt).trans (h.cell i hi).2.1, (hb.cell h.lt).trans (h.cell i hi).2.2⟩⟩
theorem DomIn.below {w w' : World} {r : LSt} (h : DomIn w r) (hb : Below w.heap.size w w') : DomIn w' r := by
  obtain ⟨sl, cap, e, hi, hl⟩ := h
  exact ⟨sl, cap, e, hi.below hb, hl⟩
theorem Sts.below {w w' : World} {sl : Option Addr} {rs : List LSt} (h : Sts w sl rs) (hb : Below w.heap.size w w') : Sts w' sl rs := by
  refine ⟨?_, fun r hr => (h.dom r hr).below hb⟩
  rcases h.row with h | ⟨c, o, e, h⟩
  · exact .inl h
  · exact .inr ⟨c, o, e, h.below hb⟩
theorem Prs.below {w w' : World} {sl : Option Addr} {rs : List LPr} (h : Prs w sl rs) (hb : Below w.heap.size w w') : Prs w' sl rs := by
  rcases h with h | ⟨c, o, e, h⟩
  · exact .inl h
  · exact .inr ⟨c, o, e, h.below hb⟩
def idsL (rs : List LSt) : List Int := rs.map fun r => r.1
theorem idsL_len (rs : List LSt) : (idsL rs).length = rs.length := by simp [idsL]
theorem idsL_get (rs : List LSt) (i : Nat) (h : i < rs.length) : (idsL rs).getD i 0 = rs[i].1 := by simp [idsL, h]
abbrev TV (sl : Option Addr) (n cap : Nat) (sl2 : Option Addr) (m cap2 : Nat) : Value := .agg #[.slice sl n cap, .slice sl2 m cap2]

set_option maxHeartbeats 1000000 in
theorem st_any (i s : Int) (sl : Option Addr) (cap : Nat) (zs : List Int) (w : World) (hn : zs.length ≤ 1048576) (hz : Ints w sl zs) :
    Calls Try.prog 40 #[SV i s sl zs.length cap] w fun e w' => e = .returned (.bool (B ((1 ≤ i ∧ i ≤ 999) ∧ StOK s zs))) ∧ Below w.heap.size w w' := by
  by_cases h1 : (1 ≤ i ∧ i ≤ 999) ∧ (1 ≤ s ∧ s ≤ 1000) ∧ (1 ≤ zs.length ∧ zs.length ≤ 8)
  · obtain ⟨⟨a1, a2⟩, ⟨a3, a4⟩, a5, a6⟩ := h1
    have a5' : (1 : Int) ≤ (zs.length : Int) := by omega
    have a6' : (zs.length : Int) ≤ 8 := by omega
    have R : Hid (∀ W, Below w.heap.size w W → Calls Try.prog 29 #[.slice sl zs.length cap] W fun e w' => e = .returned (.bool (B (RiseTo zs zs.length))) ∧ Below W.heap.size W w') := fun W hW => ri_any sl cap zs W hn (hz.below hW)
    have A : Hid (∀ W, Below w.heap.size w W → Calls Try.prog 46 #[.slice sl zs.length cap, .int .i64 2, .int .i64 51] W fun e w' => e = .returned (.bool (zs.all (inB 2 51))) ∧ w' = W) := fun W hW => l01All_any 2 51 sl cap zs W (by unfold maxLen; omega) (hz.below hW)
    by_cases hr : RiseTo zs zs.length
    · have F := Lib.hid (show B ((1 ≤ i ∧ i ≤ 999) ∧ StOK s zs) = zs.all (inB 2 51) by
        cases e : zs.all (inB 2 51)
        · exact B_no (fun h => by have := ((InRise.iff 2 51 zs).1 h.2.2.2).2; rw [e] at this; cases this)
        · exact B_yes ⟨⟨a1, a2⟩, ⟨a3, a4⟩, ⟨a5, a6⟩, (InRise.iff 2 51 zs).2 ⟨hr, e⟩⟩)
      rw [B_yes hr] at R
      clear hz hr hn a5 a6
      generalize zs.all (inB 2 51) = b at *
      generalize zs.length = n at *
      go_enter Try.func40, Try.ntmps40
      go_wp2_with fail
      refine (R.out _ (bA0 _ _)).mono ?_
      rintro e w1 ⟨rfl, b1⟩
      have P := Lib.hid (bT (bA0 w _) b1)
      obtain ⟨hc, hf⟩ := bcell b1
      have hz := bZ b1
      clear b1
      go_wp2_with fail
      refine (A.out _ P.out).mono ?_
      rintro e w2 ⟨rfl, rfl⟩
      go_wp2
      go_ret
      exact ⟨by rw [F.out]; rfl, P.out⟩
    · have F := Lib.hid (B_no (p := (1 ≤ i ∧ i ≤ 999) ∧ StOK s zs) (fun h => hr ((InRise.iff 2 51 zs).1 h.2.2.2).1))
      rw [B_no hr] at R
      clear hz hr hn a5 a6
      generalize zs.length = n at *
      go_enter Try.func40, Try.ntmps40
      go_wp2_with fail
      refine (R.out _ (bA0 _ _)).mono ?_
      rintro e w1 ⟨rfl, b1⟩
      have P := Lib.hid (bT (bA0 w _) b1)
      clear b1
      go_wp2
      go_ret
      exact ⟨by rw [F.out]; rfl, P.out⟩
  · have F := Lib.hid (B_no (p := (1 ≤ i ∧ i ≤ 999) ∧ StOK s zs) (fun h => h1 ⟨h.1, h.2.1, h.2.2.1⟩))
    have F2 : Hid (∀ W, Below w.heap.size w W → (Ending.returned (Value.bool false) = .returned (.bool (B ((1 ≤ i ∧ i ≤ 999) ∧ StOK s zs))) ∧ Below w.heap.size w W)) := fun W h => ⟨by rw [F.out], h⟩
    generalize B ((1 ≤ i ∧ i ≤ 999) ∧ StOK s zs) = r at *
    clear hz hn F
    have hl0 : (0 : Int) ≤ (zs.length : Int) := by omega
    have h1' : ¬ ((1 ≤ i ∧ i ≤ 999) ∧ (1 ≤ s ∧ s ≤ 1000) ∧ ((1 : Int) ≤ (zs.length : Int) ∧ (zs.length : Int) ≤ 8)) := by omega
    clear h1
    generalize (zs.length) = n at *
    by_cases c1 : 1 ≤ i
    · by_cases c2 : i ≤ 999
      · by_cases c3 : 1 ≤ s
        · by_cases c4 : s ≤ 1000
          · by_cases c5 : (1 : Int) ≤ (n : Int)
            · have c6 : ¬ (n : Int) ≤ 8 := by omega
              clear h1'
              go_enter Try.func40, Try.ntmps40
              go_wp2
              go_ret
              exact F2.out _ (bA0 _ _)
            · clear h1'
              go_enter Try.func40, Try.ntmps40
              go_wp2
              go_ret
              exact F2.out _ (bA0 _ _)
          · clear h1'
            go_enter Try.func40, Try.ntmps40
            go_wp2
            go_ret
            exact F2.out _ (bA0 _ _)
        · clear h1'
          go_enter Try.func40, Try.ntmps40
          go_wp2
          go_ret
          exact F2.out _ (bA0 _ _)
      · clear h1'
        go_enter Try.func40, Try.ntmps40
        go_wp2
        go_ret
        exact F2.out _ (bA0 _ _)
    · clear h1'
      go_enter Try.func40, Try.ntmps40
      go_wp2
      go_ret
      exact F2.out _ (bA0 _ _)

end Go.Proofs.Ytgfclllfkpblnaa
