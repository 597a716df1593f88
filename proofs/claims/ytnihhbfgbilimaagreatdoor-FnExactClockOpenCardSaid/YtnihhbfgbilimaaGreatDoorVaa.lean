import Derived.Test.YtnihhbfgbilimaaGreatDoorRows
import Derived.WalkKit
import Derived.WalkSpells
import Derived.WalkLawsBesides
import Derived.Laws.EntriesVeiled
import Derived.Deep.QuietTactic
import Derived.BigQuiet
import Derived.Lib.Hide
import Derived.Laws.AppendOwn
import Derived.RangeFuncNested
import Derived.RangeFuncBound
import Derived.RangeFuncCalls
import Derived.RangeFuncLeaves
import Derived.RangeFuncBox
import Derived.Shelf.Abstract
import Derived.Shelf.RegionOpen
import Derived.OwnWalkIn
import Derived.TacticsInMore
import Derived.LoopNIn
import Derived.LoopIn
import Derived.Maps.AppendAt
namespace Go.Proofs.YtnihhbfgbilimaaGreatDoor
open Go.RowKit
set_option linter.unusedVariables false
noncomputable def B (p : Prop) : Bool := @decide p (Classical.propDecidable p)
theorem B_yes {p : Prop} (h : p) : B p = true := by unfold B; simp [h]
theorem B_no {p : Prop} (h : ¬ p) : B p = false := by unfold B; simp [h]
theorem B_iff {p q : Prop} (h : p ↔ q) : B p = B q := by rw [propext h]
theorem B_true {p : Prop} (h : B p = true) : p := by unfold B at h; simpa using h
theorem B_false {p : Prop} (h : B p = false) : ¬ p := by unfold B at h; simpa using h
theorem bT {W w w1 : World} (h : Below W.heap.size W w) (hb : Below w.heap.size w w1) : Below W.heap.size W w1 := h.trans (hb.mono h.size)
theorem bA {W w : World} (h : Below W.heap.size W w) (o : Obj) : Below W.heap.size W (w.alloc o) := h.alloc h.size o
theorem bA0 (W : World) (o : Obj) : Below W.heap.size W (W.alloc o) := (Below.refl _ _).alloc (Nat.le_refl _) o
def IntsAt (w : World) (c o : Nat) (zs : List Int) : Prop :=
 c < w.heap.size ∧ ∀ i, i < zs.length → w.cell? ⟨c, o + i, none⟩ = some (.int .i64 (zs.getD i 0))
def Ints (w : World) (sl : Option Addr) (zs : List Int) : Prop := zs = [] ∨ ∃ c o, sl = some ⟨c, o, none⟩ ∧ IntsAt w c o zs
theorem IntsAt.below {w w' : World} {c o : Nat} {zs : List Int} (h : IntsAt w c o zs) (hb : Below w.heap.size w w') : IntsAt w' c o zs :=
 ⟨Nat.lt_of_lt_of_le h.1 hb.size, fun i hi => (hb.cell h.1).trans (h.2 i hi)⟩
theorem Ints.below {w w' : World} {sl : Option Addr} {zs : List Int} (h : Ints w sl zs) (hb : Below w.heap.size w w') : Ints w' sl zs := by
 rcases h with h | ⟨c, o, e, h⟩
 ·exact .inl h
 ·exact .inr ⟨c, o, e, h.below hb⟩
def vsOf (zs : List Int) (k : Nat) : Array Value := ((zs.take k).map (Value.int .i64) ++ List.replicate (zs.length - k) (Value.int .i64 0)).toArray
def RowAt (w : World) (b : Nat) (vs : Array Value) : Prop := w.heap[b]? = some (.cells vs 2)
theorem RowAt.cell {w : World} {b : Nat} {vs : Array Value} (h : RowAt w b vs) (i : Nat) : w.cell? ⟨b, i, none⟩ = vs[i]? := by
 unfold RowAt at h; simp [World.cell?, h]
theorem RowAt.frozen {w : World} {b : Nat} {vs : Array Value} (h : RowAt w b vs) (i : Nat) : w.frozen? ⟨b, i, none⟩ = false := by
 unfold RowAt at h; simp [World.frozen?, h]
theorem RowAt.lt {w : World} {b : Nat} {vs : Array Value} (h : RowAt w b vs) : b < w.heap.size := (Array.getElem?_eq_some_iff.1 h).1
theorem RowAt.set {w : World} {b : Nat} {vs : Array Value} (h : RowAt w b vs) (i : Nat) (v : Value) : RowAt (w.setCell ⟨b, i, none⟩ v) b (vs.setIfInBounds i v) := heap_setCell_same w b i vs 2 v h
def mk64 (n : Nat) : Array Value := madeCells #[.int .i64 0] n
theorem mk64_eq (zs : List Int) : mk64 zs.length = vsOf zs 0 := by
 apply Array.toList_inj.1
 rw [mk64, toList_madeCells_one]
 simp [vsOf]
theorem info2 : ∃ i, Tryz.prog.info? 2 = some i ∧ i.zero = some (.int .i64 0) ∧ i.size = 1 ∧ i.bytes = 8 := by
 have h : ((Tryz.prog.info? 2).map fun i => (i.zero, i.size, i.bytes)) = some (some (.int .i64 0), 1, 8) := by kernel_rfl
 generalize Tryz.prog.info? 2 = o at *
 cases o with
 | none => simp at h
 | some i => simp at h; exact ⟨i, rfl, h.1, h.2.1, h.2.2⟩
theorem make64 (n : Nat) (h : n ≤ 1048576) (w : World) :
  Sem.run Tryz.prog (Instr.makeSlice 34 (.int .i64 (n : Int)) (.int .i64 (n : Int))) w = .ok (.slice (some ⟨w.heap.size, 0, none⟩) n n) (w.alloc (.cells (mk64 n) 2)) := by
 obtain ⟨i, h1, h2, h3, h4⟩ := info2
 have := run_make (P := Tryz.prog) w 34 2 i (.int .i64 0) Tryz.underlying34 h1 h2 .i64 .i64 (n : Int) (n : Int) (by omega) (Int.le_refl _) (by rw [h4]; omega) (by omega)
 rw [this, h3]
 simp [mk64, Value.cells]
def UpTo (lo hi : Int) (zs : List Int) (k : Nat) : Prop := ∀ i, i < k → (lo ≤ zs.getD i 0 ∧ zs.getD i 0 ≤ hi) ∧ (0 < i → zs.getD (i - 1) 0 < zs.getD i 0)
def InRise (lo hi : Int) (zs : List Int) : Prop := UpTo lo hi zs zs.length
def StOK (s : Int) (zs : List Int) : Prop := (1 ≤ s ∧ s ≤ 1000) ∧ (1 ≤ zs.length ∧ zs.length ≤ 8) ∧ InRise 2 51 zs
def posOf (zs : List Int) (x : Int) : Int := if zs.idxOf x < zs.length then (zs.idxOf x : Int) else -1
def NotIn (zs : List Int) (x : Int) (k : Nat) : Prop := ∀ i, i < k → zs.getD i 0 ≠ x
theorem idxOf_hit (zs : List Int) (x : Int) (k : Nat) (h : k < zs.length) (hx : zs.getD k 0 = x) (hn : NotIn zs x k) : zs.idxOf x = k := by
 induction zs generalizing k with
 | nil => simp at h
 | cons a r ih =>
  cases k with
  | zero => simp at hx; simp [hx]
  | succ k =>
   have ha : a ≠ x := by have := hn 0 (by omega); simpa using this
   rw [List.idxOf_cons, show (a == x) = false by simpa using ha]
   simp only [cond_false]
   rw [ih k (by simpa using h) (by simpa using hx) (fun i hi => by have := hn (i + 1) (by omega); simpa using this)]
theorem posOf_hit (zs : List Int) (x : Int) (k : Nat) (h : k < zs.length) (hx : zs.getD k 0 = x) (hn : NotIn zs x k) : posOf zs x = (k : Int) := by
 unfold posOf; rw [idxOf_hit zs x k h hx hn, if_pos h]
theorem notIn_mem {zs : List Int} {x : Int} (hn : NotIn zs x zs.length) : x ∉ zs := by
 intro hm
 obtain ⟨i, hi, e⟩ := List.getElem_of_mem hm
 have := hn i hi
 simp [hi] at this
 exact this e
theorem posOf_miss {zs : List Int} {x : Int} (h : x ∉ zs) : posOf zs x = -1 := by
 unfold posOf
 rw [if_neg]
 rw [List.idxOf_lt_length_iff]; exact h
theorem posOf_neg (zs : List Int) (x : Int) : posOf zs x < 0 ↔ x ∉ zs := by
 unfold posOf
 by_cases h : x ∈ zs
 ·rw [if_pos (List.idxOf_lt_length_iff.2 h)]; simp [h]
 ·rw [if_neg (fun e => h (List.idxOf_lt_length_iff.1 e))]; simp [h]
set_option maxHeartbeats 400000 in
theorem ix_nil (sl : Option Addr) (cap : Nat) (x : Int) (w : World) :
  Calls Tryz.prog 163 #[.slice sl 0 cap, .int .i64 x] w fun e w' => e = .returned (.int .i64 (-1)) ∧ w' = w := by
 go_enter Tryz.func163, Tryz.ntmps163
 go_wp2
 refine wp_loop_rounds 1 ?_
 rw [rounds_succ]
 go_wp2
 go_ret
 exact ⟨rfl, rfl⟩
set_option maxHeartbeats 400000 in
theorem ix_some (c o cap : Nat) (x : Int) (zs : List Int) (w : World) (hn : zs.length ≤ 1048576) (hz : IntsAt w c o zs) :
  Calls Tryz.prog 163 #[.slice (some ⟨c, o, none⟩) zs.length cap, .int .i64 x] w fun e w' => e = .returned (.int .i64 (posOf zs x)) ∧ Below w.heap.size w w' := by
 have HZ := Lib.hid hz
 clear hz
 generalize hN : zs.length = n at *
 have HN := Lib.hid hN
 clear hN
 go_enter Tryz.func163, Tryz.ntmps163
 go_wp2
 go_loopw [8] (fun i wr => ∃ k : Nat, i = .int .i64 k ∧ k ≤ n ∧ Hid (NotIn zs x k) ∧ Hid (Below w.heap.size w wr)) (fun i _ => n - (intOf i).toNat)
 case atStart => exact ⟨0, rfl, Nat.zero_le _, fun i h => by omega, Below.refl _ _⟩
 case round =>
  obtain ⟨k, rfl, hk, H1, H2⟩ := hrel
  have hk0 : (0 : Int) ≤ (k : Int) := by omega
  by_cases h1 : k < n
  ·have h1' : (k : Int) < (n : Int) := by omega
   have hlt : k < zs.length := by rw [HN.out]; exact h1
   have hc : wr.cell? ⟨c, o + k, none⟩ = some (.int .i64 (zs.getD k 0)) := (H2.out.cell HZ.out.1).trans (HZ.out.2 k hlt)
   by_cases a4 : zs.getD k 0 = x
   ·have HF := Lib.hid (posOf_hit zs x k hlt a4 H1.out)
    have a5 : (x == zs.getD k 0) = true := by rw [beq_iff_eq]; exact a4.symm
    clear hlt
    generalize zs.getD k 0 = z at *
    go_wp2
    go_ret
    exact ⟨by rw [HF.out]; rfl, H2.out⟩
   ·have HS : Hid (NotIn zs x (k + 1)) := fun i h2 => by
     by_cases e : i = k
     ·subst e; exact a4
     ·exact H1.out i (by omega)
    have a5 : (x == zs.getD k 0) = false := by rw [beq_eq_false_iff_ne]; exact fun e => a4 e.symm
    clear hlt
    generalize zs.getD k 0 = z at *
    go_wp2
    go_roundw
    case rel => exact ⟨k + 1, by go_num, by omega, HS, H2⟩
    case measure => simp [intOf]; omega
  ·have h1' : ¬ (k : Int) < (n : Int) := by omega
   have HE := Lib.hid (posOf_miss (notIn_mem (zs := zs) (x := x) (by have := H1.out; rwa [show k = zs.length by rw [HN.out]; omega] at this)))
   go_wp2
   go_ret
   exact ⟨by rw [HE.out]; rfl, H2.out⟩
theorem ix_any (sl : Option Addr) (cap : Nat) (x : Int) (zs : List Int) (w : World) (hn : zs.length ≤ 1048576) (hz : Ints w sl zs) :
  Calls Tryz.prog 163 #[.slice sl zs.length cap, .int .i64 x] w fun e w' => e = .returned (.int .i64 (posOf zs x)) ∧ Below w.heap.size w w' := by
 rcases hz with rfl | ⟨c, o, rfl, h⟩
 ·refine (ix_nil sl cap x w).mono ?_
  rintro e w' ⟨rfl, rfl⟩
  exact ⟨rfl, Below.refl _ _⟩
 ·exact ix_some c o cap x zs w hn h
set_option maxHeartbeats 400000 in
theorem has_any (sl : Option Addr) (cap : Nat) (x : Int) (zs : List Int) (w : World) (hn : zs.length ≤ 1048576) (hz : Ints w sl zs) :
  Calls Tryz.prog 128 #[.slice sl zs.length cap, .int .i64 x] w fun e w' => e = .returned (.bool (B (x ∈ zs))) ∧ Below w.heap.size w w' := by
 have E := Lib.hid (ix_any sl cap x zs w hn hz)
 have hb := posOf_neg zs x
 by_cases hx : x ∈ zs
 ·have h0 : 0 ≤ posOf zs x := by by_cases h : posOf zs x < 0; exact absurd hx (hb.1 h); omega
  rw [B_yes hx]
  clear hz hn hb hx
  generalize posOf zs x = r at *
  generalize zs.length = n at *
  go_enter Tryz.func128, Tryz.ntmps128
  go_wp2_with fail
  refine E.out.mono ?_
  rintro e w1 ⟨rfl, b1⟩
  go_wp2
  go_ret
  exact ⟨rfl, b1⟩
 ·have h0 : decide (0 ≤ posOf zs x) = false := by have := hb.2 hx; rw [decide_eq_false_iff_not]; omega
  rw [B_no hx]
  clear hz hn hb hx
  generalize posOf zs x = r at *
  generalize zs.length = n at *
  go_enter Tryz.func128, Tryz.ntmps128
  go_wp2_with fail
  refine E.out.mono ?_
  rintro e w1 ⟨rfl, b1⟩
  go_wp2
  go_ret
  exact ⟨rfl, b1⟩
abbrev LSt := Int × Int × Value × List Int
abbrev LPr := Int × Int × Int
structure StAt (w : World) (c o : Nat) (rs : List LSt) : Prop where
 lt : c < w.heap.size
 cell : ∀ i (h : i < rs.length), w.cell? ⟨c, o + i * 3, none⟩ = some (.int .i64 rs[i].1) ∧ w.cell? ⟨c, o + i * 3 + 1, none⟩ = some (.int .i64 rs[i].2.1) ∧ w.cell? ⟨c, o + i * 3 + 2, none⟩ = some rs[i].2.2.1
def DomIn (w : World) (r : LSt) : Prop := ∃ sl cap, r.2.2.1 = .slice sl r.2.2.2.length cap ∧ Ints w sl r.2.2.2 ∧ r.2.2.2.length ≤ 1048576
structure Sts (w : World) (sl : Option Addr) (rs : List LSt) : Prop where
 row : rs = [] ∨ ∃ c o, sl = some ⟨c, o, none⟩ ∧ StAt w c o rs
 dom : ∀ r ∈ rs, DomIn w r
structure PrAt (w : World) (c o : Nat) (ps : List LPr) : Prop where
 lt : c < w.heap.size
 cell : ∀ i (h : i < ps.length), w.cell? ⟨c, o + i * 3, none⟩ = some (.int .i64 ps[i].1) ∧ w.cell? ⟨c, o + i * 3 + 1, none⟩ = some (.int .i64 ps[i].2.1) ∧ w.cell? ⟨c, o + i * 3 + 2, none⟩ = some (.int .i64 ps[i].2.2)
def Prs (w : World) (sl : Option Addr) (ps : List LPr) : Prop := ps = [] ∨ ∃ c o, sl = some ⟨c, o, none⟩ ∧ PrAt w c o ps
theorem StAt.below {w w' : World} {c o : Nat} {rs : List LSt} (h : StAt w c o rs) (hb : Below w.heap.size w w') : StAt w' c o rs :=
 ⟨Nat.lt_of_lt_of_le h.lt hb.size, fun i hi => ⟨(hb.cell h.lt).trans (h.cell i hi).1, (hb.cell h.lt).trans (h.cell i hi).2.1, (hb.cell h.lt).trans (h.cell i hi).2.2⟩⟩
theorem PrAt.below {w w' : World} {c o : Nat} {rs : List LPr} (h : PrAt w c o rs) (hb : Below w.heap.size w w') : PrAt w' c o rs :=
 ⟨Nat.lt_of_lt_of_le h.lt hb.size, fun i hi => ⟨(hb.cell h.lt).trans (h.cell i hi).1, (hb.cell h.lt).trans (h.cell i hi).2.1, (hb.cell h.lt).trans (h.cell i hi).2.2⟩⟩
theorem DomIn.below {w w' : World} {r : LSt} (h : DomIn w r) (hb : Below w.heap.size w w') : DomIn w' r := by
 obtain ⟨sl, cap, e, hi, hl⟩ := h
 exact ⟨sl, cap, e, hi.below hb, hl⟩
theorem Sts.below {w w' : World} {sl : Option Addr} {rs : List LSt} (h : Sts w sl rs) (hb : Below w.heap.size w w') : Sts w' sl rs := by
 refine ⟨?_, fun r hr => (h.dom r hr).below hb⟩
 rcases h.row with h | ⟨c, o, e, h⟩
 ·exact .inl h
 ·exact .inr ⟨c, o, e, h.below hb⟩
theorem Prs.below {w w' : World} {sl : Option Addr} {rs : List LPr} (h : Prs w sl rs) (hb : Below w.heap.size w w') : Prs w' sl rs := by
 rcases h with h | ⟨c, o, e, h⟩
 ·exact .inl h
 ·exact .inr ⟨c, o, e, h.below hb⟩
def idsL (rs : List LSt) : List Int := rs.map fun r => r.1
end Go.Proofs.YtnihhbfgbilimaaGreatDoor
namespace Go.Proofs.YtnihhbfgbilimaaGreatDoor
open Go.RowKit Go.Shelf
set_option linter.unusedVariables false
attribute [local go_sem] Oper.semAt_some
def lv (z : Int) : Int := max z (wrap64 (-z))
abbrev litE (z : Int) : Array Value := #[.int .i64 (lv z), .bool (decide (0 < z))]
def upto (zs : List Int) (k : Nat) : List Int := (List.range k).map fun j => zs[j]?.getD 0
theorem upto_succ (zs : List Int) (k : Nat) : upto zs (k + 1) = upto zs k ++ [zs[k]?.getD 0] := by simp [upto, List.range_succ]
theorem upto_length (zs : List Int) (k : Nat) : (upto zs k).length = k := by simp [upto]
theorem upto_take (zs : List Int) {k : Nat} (hk : k ≤ zs.length) : upto zs k = zs.take k := by
 apply List.ext_getElem
 ·simp [upto, hk]
 ·intro i h1 h2
  have : i < zs.length := by simp [upto] at h1; omega
  simp [upto, this]
set_option maxRecDepth 100000 in
set_option maxHeartbeats 2000000 in
theorem lits1_in (F : Fence) (n : Nat) (h7 : F.fn 235) (hro : F.round = none) (hn : 1 ≤ n) (l Bs n₀ b off len cap : Nat) (zs : List Int) (hreach : len ≤ 1048576) (hb : b < n₀) (J Jx : List Int → World → Prop)
  (hY : ∀ pre x W, J pre W → pre.length < len → YieldAt F (n - 1) Tryz.prog l (litE x) W fun e W' =>
   (e = .returned (.bool true) ∧ J (pre ++ [x]) W' ∧ Below n₀ W W') ∨ (e = .returned (.bool false) ∧ Jx (pre ++ [x]) W'))
  (W : World) (hBs : W.cell? ⟨Bs, 0, none⟩ = some (.slice (some ⟨b, off, none⟩) len cap)) (hc : ∀ j, j < len → W.cell? ⟨b, off + j, none⟩ = some (.int .i64 (zs[j]?.getD 0))) (h0 : J [] W) :
  CallsIn F n Tryz.prog 235 #[.func (.yield l) #[] #[], .pointer (some ⟨Bs, 0, none⟩)] W fun e W' => (∃ v, e = .returned v) ∧
   ((∃ ys, ys = upto zs len ∧ J ys W') ∨ (∃ pre, (∃ k, k ≤ len ∧ pre = upto zs k) ∧ Jx pre W')) := by
 refine callsIn_of_wp Tryz.func235 rfl h7 ?_ hro
 simp only [Tryz.ntmps235, List.size_toArray, List.length_cons, List.length_nil, Nat.reduceAdd, Nat.reduceSub, Array.replicate_succ, Array.replicate_zero, List.push_toArray, List.append_toArray, List.nil_append, List.cons_append]
 gi_wp2
 gi_loopw [7] (fun i wr => ∃ k : Nat, k ≤ len ∧ i = .int .i64 k ∧ J (upto zs k) wr ∧ Below n₀ W wr)
  (fun i _ => len - (intOf i).toNat)
 case atStart => exact ⟨0, Nat.zero_le _, rfl, h0, Below.refl _ _⟩
 case round =>
  obtain ⟨k, hk, rfl, hJs, hnx⟩ := hrel
  have hcx : k < len → wr.cell? ⟨b, off + k, none⟩ = some (.int .i64 (zs[k]?.getD 0)) := fun h => (hnx.cell (p := ⟨b, off + k, none⟩) hb).trans (hc k h)
  by_cases hlt : k < len
  ·obtain ⟨fn, tmps, assign, body, hy, hR⟩ := hY _ (zs[k]?.getD 0) wr hJs (by rw [upto_length]; exact hlt)
   dsimp only [litE, lv] at hy
   have hcx' := hcx hlt
   have hUS := Lib.hid (upto_succ zs k)
   have hJJ := Lib.hid hJs
   have hMX := Int.max_def (zs[k]?.getD 0) (wrap64 (-zs[k]?.getD 0))
   by_cases hm : zs[k]?.getD 0 < wrap64 (-zs[k]?.getD 0)
   ·rw [if_pos (Int.le_of_lt hm)] at hMX
    rw [hMX] at hy
    clear hMX hJs hcx hc
    gi_wp2
    refine hR.mono ?_
    rintro e W3 (⟨rfl, hJ3, hk3⟩ | ⟨rfl, hJx3⟩)
    ·gi_wp2
     go_roundw
     case rel => exact ⟨k + 1, by omega, by simp, by rw [hUS.out]; exact hJ3, hnx.trans hk3⟩
     case measure => simp [intOf]; omega
    ·gi_wp2
     refine bodyPost_ret (results_none rfl _ _ _) rfl ?_
     exact ⟨⟨_, rfl⟩, .inr ⟨_, ⟨k + 1, by omega, hUS.out.symm⟩, hJx3⟩⟩
   ·replace hMX : max (zs[k]?.getD 0) (wrap64 (-zs[k]?.getD 0)) = zs[k]?.getD 0 := by omega
    replace hm : wrap64 (-zs[k]?.getD 0) ≤ zs[k]?.getD 0 := by omega
    rw [hMX] at hy
    clear hMX hJs hcx hc
    gi_wp2
    refine hR.mono ?_
    rintro e W3 (⟨rfl, hJ3, hk3⟩ | ⟨rfl, hJx3⟩)
    ·gi_wp2
     go_roundw
     case rel => exact ⟨k + 1, by omega, by simp, by rw [hUS.out]; exact hJ3, hnx.trans hk3⟩
     case measure => simp [intOf]; omega
    ·gi_wp2
     refine bodyPost_ret (results_none rfl _ _ _) rfl ?_
     exact ⟨⟨_, rfl⟩, .inr ⟨_, ⟨k + 1, by omega, hUS.out.symm⟩, hJx3⟩⟩
  ·obtain rfl : k = len := by omega
   gi_wp2
   go_end0
   exact ⟨⟨_, rfl⟩, .inl ⟨_, rfl, hJs⟩⟩
set_option maxRecDepth 100000 in
set_option maxHeartbeats 1000000 in
theorem lits1_nil_in (F : Fence) (n : Nat) (h7 : F.fn 235) (hro : F.round = none) (l Bs : Nat) (a : Option Addr) (cap : Nat) (J : List Int → World → Prop) (W : World) (hBs : W.cell? ⟨Bs, 0, none⟩ = some (.slice a 0 cap)) (h0 : J [] W) :
  CallsIn F n Tryz.prog 235 #[.func (.yield l) #[] #[], .pointer (some ⟨Bs, 0, none⟩)] W fun e W' => (∃ v, e = .returned v) ∧ J [] W' := by
 refine callsIn_of_wp Tryz.func235 rfl h7 ?_ hro
 simp only [Tryz.ntmps235, List.size_toArray, List.length_cons, List.length_nil, Nat.reduceAdd, Nat.reduceSub, Array.replicate_succ, Array.replicate_zero, List.push_toArray, List.append_toArray, List.nil_append, List.cons_append]
 gi_wp2
 gi_loopw [7] (fun i wr => i = .int .i64 0 ∧ J [] wr) (fun _ _ => 0)
 case atStart => exact ⟨rfl, h0⟩
 case round =>
  obtain ⟨rfl, hJs⟩ := hrel
  gi_wp2
  go_end0
  exact ⟨⟨_, rfl⟩, hJs⟩
set_option maxHeartbeats 1000000 in
theorem lits_in (F : Fence) (n : Nat) (h5 : F.fn 219) (hro : F.round = none) (a : Option Addr) (len cap : Nat) (w : World) :
  CallsIn F n Tryz.prog 219 #[.slice a len cap] w fun e w' => e = .returned (.func (.func 235) #[] #[.pointer (some ⟨w.heap.size, 0, none⟩)]) ∧ w' = w.alloc (.cells #[.slice a len cap] 34) := by
 refine callsIn_of_wp Tryz.func219 rfl h5 ?_ hro
 simp only [Tryz.ntmps219, List.size_toArray, List.length_cons, List.length_nil, Nat.reduceAdd, Nat.reduceSub, Array.replicate_succ, Array.replicate_zero, List.push_toArray, List.append_toArray, List.nil_append, List.cons_append]
 gi_wp2
 go_ret
 exact ⟨rfl, rfl⟩
theorem lits_stops (F : Fence) (n : Nat) (h7 : F.fn 235) (hro : F.round = none) (hn : 1 ≤ n) (Bs n₀ : Nat) (sl : Option Addr) (cap : Nat) (zs : List Int) (hreach : zs.length ≤ 1048576) (w : World) (hBs : Bs < w.heap.size) (hn₀ : n₀ ≤ w.heap.size)
  (hc : w.cell? ⟨Bs, 0, none⟩ = some (.slice sl zs.length cap)) (hI : zs = [] ∨ ∃ b off, sl = some ⟨b, off, none⟩ ∧ b < n₀ ∧ ∀ j, j < zs.length → w.cell? ⟨b, off + j, none⟩ = some (.int .i64 (zs[j]?.getD 0))) :
  SeqStopsK F n Tryz.prog 235 #[.pointer (some ⟨Bs, 0, none⟩)] litE (Below n₀) (fun ys => ys = zs) (fun pre => pre <+: zs) zs.length w := fun l J Jx W hW _ _ hY h0 => by
 have hc' := (hW.cell (p := ⟨Bs, 0, none⟩) hBs).trans hc
 rcases hI with rfl | ⟨b, off, rfl, hb, hcs⟩
 ·exact (lits1_nil_in F n h7 hro l Bs sl cap J W hc' h0).mono fun e W' ⟨he, hj⟩ => ⟨he, .inl ⟨_, rfl, hj⟩⟩
 ·refine (lits1_in F n h7 hro hn l Bs n₀ b off zs.length cap zs hreach hb J Jx hY W hc' (fun j hj => ((hW.mono hn₀).cell (p := ⟨b, off + j, none⟩) hb).trans (hcs j hj)) h0).mono ?_
  rintro e W' ⟨he, ⟨ys, rfl, hj⟩ | ⟨pre, ⟨k, hk, rfl⟩, hj⟩⟩
  ·exact ⟨he, .inl ⟨_, by rw [upto_take zs (Nat.le_refl _), List.take_length], hj⟩⟩
  ·exact ⟨he, .inr ⟨_, by rw [upto_take zs hk]; exact List.take_prefix _ _, hj⟩⟩
theorem keeps_below {B : Nat} {W W' : World} (h : Below W.heap.size W W') : KeepsFrom B W W' :=
 ⟨h.size, fun k o _ hk _ => (h.block k (Array.getElem?_eq_some_iff.1 hk).1).trans hk⟩
def TabAt (w : World) (b : Nat) (sl : Option Addr) (n cap : Nat) (sl2 : Option Addr) (m cap2 : Nat) : Prop := w.heap[b]? = some (.cells #[.slice sl n cap, .slice sl2 m cap2] 0)
theorem TabAt.lt {w : World} {b : Nat} {sl : Option Addr} {n cap : Nat} {sl2 : Option Addr} {m cap2 : Nat} (h : TabAt w b sl n cap sl2 m cap2) : b < w.heap.size := (Array.getElem?_eq_some_iff.1 h).1
theorem TabAt.below {w w' : World} {b : Nat} {sl : Option Addr} {n cap : Nat} {sl2 : Option Addr} {m cap2 : Nat} (h : TabAt w b sl n cap sl2 m cap2) (hb : Below w.heap.size w w') : TabAt w' b sl n cap sl2 m cap2 := (hb.block b h.lt).trans h
theorem TabAt.cells {w : World} {b : Nat} {sl : Option Addr} {n cap : Nat} {sl2 : Option Addr} {m cap2 : Nat} (h : TabAt w b sl n cap sl2 m cap2) : w.cell? ⟨b, 0, none⟩ = some (.slice sl n cap) ∧ w.cell? ⟨b, 1, none⟩ = some (.slice sl2 m cap2) := by
 unfold TabAt at h
 refine ⟨?_, ?_⟩ <;> simp [World.cell?, h]
def valsZ (zs : List Int) : List Value := zs.map (Value.int .i64)
theorem own_cells {w : World} {B : Nat} {v : Value} {n : Nat} {xs : List Value} (h : w.ownsRow B 2 1 v n xs) (hn : 0 < n) :
  ∃ g cap, v = .slice (some ⟨g, 0, none⟩) n cap ∧ B ≤ g ∧ g < w.heap.size ∧ n ≤ cap ∧ cap ≤ maxLen ∧ ∀ j, j < n → w.cell? ⟨g, j, none⟩ = xs[j]? := by
 rcases h.2 with ⟨_, h0⟩ | ⟨g, cap, cur, hv, hb, hg, hcap, hmx, hcur, hx⟩
 ·omega
 ·refine ⟨g, cap, hv, hb, (Array.getElem?_eq_some_iff.1 hg).1, hcap, hmx, fun j hj => ?_⟩
  rw [← hx, List.getElem?_take_of_lt (by omega)]
  simp [World.cell?, hg]
theorem own_ints {w : World} {B : Nat} {v : Value} {zs : List Int} (h : w.ownsRow B 2 1 v zs.length (valsZ zs)) : ∃ sl cap, v = .slice sl zs.length cap ∧ Ints w sl zs := by
 by_cases hn : 0 < zs.length
 ·obtain ⟨g, cap, rfl, _, hg, _, _, hc⟩ := own_cells h hn
  exact ⟨_, _, rfl, .inr ⟨g, 0, rfl, hg, fun i hi => by rw [Nat.zero_add, hc i hi]; simp [valsZ, hi]⟩⟩
 ·have e : zs = [] := List.eq_nil_of_length_eq_zero (by omega)
  subst e
  rcases h.2 with ⟨hv, _⟩ | ⟨g, cap, cur, hv, _⟩
  ·exact ⟨none, 0, hv, .inl rfl⟩
  ·exact ⟨_, cap, hv, .inl rfl⟩
theorem own_below {B : Nat} {e : TypeId} {m : Nat} {v : Value} {n : Nat} {xs : List Value} {w w' : World} (h : w.ownsRow B e m v n xs) (hb : Below w.heap.size w w') : w'.ownsRow B e m v n xs := by
 refine ⟨h.1, ?_⟩
 rcases h.2 with h | ⟨g, cap, cur, hv, hg, hh, r⟩
 ·exact .inl h
 ·exact .inr ⟨g, cap, cur, hv, hg, (hb.block g (Array.getElem?_eq_some_iff.1 hh).1).trans hh, r⟩
theorem own_mono {w : World} {B B' : Nat} {e : TypeId} {m : Nat} {v : Value} {n : Nat} {xs : List Value} (h : w.ownsRow B e m v n xs) (hB : B' ≤ B) : w.ownsRow B' e m v n xs := by
 refine ⟨h.1, ?_⟩
 rcases h.2 with h | ⟨g, cap, cur, hv, hg, r⟩
 ·exact .inl h
 ·exact .inr ⟨g, cap, cur, hv, Nat.le_trans hB hg, r⟩
theorem own_v {B : Nat} {e : TypeId} {m : Nat} {w : World} {v : Value} {n : Nat} {xs : List Value} (h : w.ownsRow B e m v n xs) : ∃ sl cap, v = .slice sl n cap := by
 rcases h.2 with ⟨rfl, h0⟩ | ⟨g, cap, cur, rfl, _⟩
 ·exact ⟨none, 0, by rw [h0]⟩
 ·exact ⟨_, cap, rfl⟩
end Go.Proofs.YtnihhbfgbilimaaGreatDoor
namespace Go.Proofs.YtnihhbfgbilimaaGreatDoor
open Go.RowKit Go.Shelf
set_option linter.unusedVariables false
attribute [local go_sem] Oper.semAt_some
def GoodTo (vars : Int) (zs : List Int) : Prop := (∀ z ∈ zs, 1 ≤ lv z ∧ lv z ≤ vars) ∧ (zs.map lv).Nodup
def ClR (vars : Int) (zs : List Int) : Prop := zs.length ≤ 16 ∧ GoodTo vars zs
theorem GoodTo.nil (vars : Int) : GoodTo vars [] := ⟨fun z h => absurd h List.not_mem_nil, List.nodup_nil⟩
theorem GoodTo.step {vars : Int} {pre : List Int} {x : Int} (h : GoodTo vars pre) (h1 : 1 ≤ lv x) (h2 : lv x ≤ vars) (h3 : lv x ∉ pre.map lv) : GoodTo vars (pre ++ [x]) := by
 refine ⟨fun z hz => ?_, ?_⟩
 ·rcases List.mem_append.1 hz with hz | hz
  ·exact h.1 z hz
  ·rw [List.mem_singleton.1 hz]; exact ⟨h1, h2⟩
 ·rw [List.map_append, List.nodup_append]
  refine ⟨h.2, by simp, fun a ha b hb => ?_⟩
  simp at hb
  rintro rfl
  subst hb
  exact h3 ha
theorem GoodTo.no1 {vars : Int} {pre : List Int} {x : Int} (h1 : ¬ (1 ≤ lv x ∧ lv x ≤ vars)) : ¬ GoodTo vars (pre ++ [x]) := fun g => h1 (g.1 x (by simp))
theorem GoodTo.no2 {vars : Int} {pre : List Int} {x : Int} (h1 : lv x ∈ pre.map lv) : ¬ GoodTo vars (pre ++ [x]) := fun g => by
 have := g.2
 rw [List.map_append, List.nodup_append] at this
 exact this.2.2 _ h1 (lv x) (by simp) rfl
theorem GoodTo.prefix {vars : Int} {pre zs : List Int} (h : pre <+: zs) (g : GoodTo vars zs) : GoodTo vars pre := by
 obtain ⟨r, rfl⟩ := h
 refine ⟨fun z hz => g.1 z (List.mem_append_left _ hz), ?_⟩
 have := g.2
 rw [List.map_append, List.nodup_append] at this
 exact this.1
theorem boxB {W W' : World} {b : Nat} {t : TypeId} {v : Value} (h : Boxed W b t v) (hb : Below W.heap.size W W') : Boxed W' b t v := (hb.block b h.lt).trans h
theorem info2c : (Tryz.prog.info? 2).map (fun i => (i.zero, i.size, i.bytes)) = some (some (.int .i64 0), 1, 8) := by kernel_rfl
set_option maxRecDepth 100000 in
set_option maxHeartbeats 2000000 in
theorem clr_long (vars : Int) (sl : Option Addr) (n cap : Nat) (w : World) (h : 16 < n) :
  Calls Tryz.prog 190 #[.slice sl n cap, .int .i64 vars] w fun e w' => e = .returned (.bool false) ∧ Below w.heap.size w w' := by
 have h' : (16 : Int) < (n : Int) := by omega
 go_enter Tryz.func190, Tryz.ntmps190
 go_wp2
 exact bodyPost_ret (v := .bool false) (by simp [results, Tryz.results190, go_sem]) rfl ⟨rfl, bA (bA0 _ _) _⟩
set_option maxRecDepth 100000 in
set_option maxHeartbeats 4000000 in
theorem clr_short (vars : Int) (sl : Option Addr) (cap : Nat) (zs : List Int) (w : World) (hn : zs.length ≤ 16) (hz : Ints w sl zs) :
  Calls Tryz.prog 190 #[.slice sl zs.length cap, .int .i64 vars] w fun e w' => e = .returned (.bool (B (GoodTo vars zs))) ∧ Below w.heap.size w w' := by
 obtain ⟨i0, hi, hz0, hz1, hz2⟩ := info_parts info2c
 have h16 : ¬ (16 : Int) < (zs.length : Int) := by omega
 have HZ : Hid (∀ W, Below w.heap.size w W → zs = [] ∨ ∃ b off, sl = some ⟨b, off, none⟩ ∧ b < w.heap.size ∧ ∀ j, j < zs.length → W.cell? ⟨b, off + j, none⟩ = some (.int .i64 (zs[j]?.getD 0))) := fun W hW => by
  rcases hz with e | ⟨c, o, e, hl, hc⟩
  ·exact .inl e
  ·exact .inr ⟨c, o, e, hl, fun j hj => (hW.cell (p := ⟨c, o + j, none⟩) hl).trans (by rw [hc j hj]; simp)⟩
 have HN := Lib.hid hn
 clear hz hn
 refine (callsIn_wide (n := 6)).1 ?_
 refine callsIn_of_wp_marks Tryz.func190 rfl trivial ?_ rfl
 simp only [Tryz.ntmps190, List.size_toArray, List.length_cons, List.length_nil, Nat.reduceAdd, Nat.reduceSub, Array.replicate_succ, Array.replicate_zero, List.push_toArray, List.append_toArray, List.nil_append, List.cons_append]
 gi_wp2_with (refine ⟨trivial, ?_⟩; gi_at_call 219; refine (lits_in Fence.wide _ trivial rfl _ _ _ _).mono ?_; rintro e w' ⟨rfl, rfl⟩)
 have bV := Boxed.new w 2 (.int .i64 vars)
 have bR := Boxed.new (w.alloc (.cells #[.int .i64 vars] 2)) 4 (.bool false)
 have bS := Boxed.new ((w.alloc (.cells #[.int .i64 vars] 2)).alloc (.cells #[.bool false] 4)) 34 (.slice none 0 0)
 have bC := Boxed.new (((w.alloc (.cells #[.int .i64 vars] 2)).alloc (.cells #[.bool false] 4)).alloc (.cells #[.slice none 0 0] 34)) 34 (.slice sl zs.length cap)
 simp only [World.size_alloc] at bR bS bC
 have hB0 : Below w.heap.size w ((((w.alloc (.cells #[.int .i64 vars] 2)).alloc (.cells #[.bool false] 4)).alloc (.cells #[.slice none 0 0] 34)).alloc (.cells #[.slice sl zs.length cap] 34)) := bA (bA (bA (bA0 _ _) _) _) _
 refine wpIn_rangeFunc_ownG rfl (by omega) (gf := 235) (lb := #[.pointer (some ⟨w.heap.size + 1 + 1 + 1, 0, none⟩)]) rfl trivial (enters_of Tryz.func235 (by kernel_rfl) rfl)
  (lits_stops Fence.wide _ trivial rfl (by omega) (w.heap.size + 1 + 1 + 1) w.heap.size sl cap zs (by have := HN.out; omega) _ (by simp) (by simp; omega) bC.cell (HZ.out _ hB0)) belowK_t (belowK_b (by simp; omega)) (Below.refl _ _) (fun _ => rfl)
  (fun pre W => (∃ v, Boxed W (w.heap.size + 1 + 1) 34 v ∧ W.ownsRow (w.heap.size + 1) 2 1 v (pre.map lv).length (valsZ (pre.map lv)) ∧ True) ∧ Boxed W w.heap.size 2 (.int .i64 vars) ∧ Boxed W (w.heap.size + 1) 4 (.bool false) ∧ GoodTo vars pre ∧ Below w.heap.size w W)
  (fun c pre W => Boxed W (w.heap.size + 1) 4 (.bool false) ∧ (c = .ret ∧ ¬ GoodTo vars pre) ∧ Below w.heap.size w W)
  (OwnFrom.and (Own.from (holdsRow_own (w.heap.size + 1) (w.heap.size + 1 + 1) 34 2 1 (fun pre : List Int => (pre.map lv).length) (fun pre : List Int => valsZ (pre.map lv)) (fun _ _ => True)) _) (OwnFrom.and (Own.from (boxed_own _ _ _) _) (OwnFrom.and (Own.from (boxed_own _ _ _) _) (OwnFrom.and (ownFrom_pure _ _) (ownFrom_below (Nat.le_refl _) (by simp; omega))))))
  (fun c => OwnFrom.and (Own.from (boxed_own _ _ _) _) (OwnFrom.and (ownFrom_pure _ _) (ownFrom_below (Nat.le_refl _) (by simp; omega))))
  ⟨⟨_, bS.alloc _, World.ownsRow_nil _ _ _ _, trivial⟩, ((bV.alloc _).alloc _).alloc _, (bR.alloc _).alloc _, GoodTo.nil vars, hB0⟩
  (fun x => { tmps := #[.slice sl zs.length cap, .int .i64 vars, undef, .pointer (some ⟨w.heap.size, 0, none⟩), .pointer (some ⟨w.heap.size + 1, 0, none⟩), .pointer (some ⟨w.heap.size + 1 + 1, 0, none⟩), .int .i64 (lv x), .slice sl zs.length cap, .int .i64 zs.length, .bool false, .slice sl zs.length cap, .func (.func 235) #[] #[.pointer (some ⟨w.heap.size + 1 + 1 + 1, 0, none⟩)], .int .i64 (lv x), .bool (decide (0 < x)), undef, undef, undef, undef, undef, undef, undef, undef, undef, undef, undef, undef, undef, undef, undef, undef], defers := [] }) ?assign ?body ?done ?stop
 case assign =>
  intro l x W K hK
  gi_wp2
  exact hK
 case body =>
  rintro l pre x W ⟨⟨v, hv, hrow, -⟩, bV, bR, hG, hB⟩ hlt
  have hc := hv.cell
  have hcv := bV.cell
  have hcr := bR.cell
  have hfr := bR.frozen
  by_cases c1 : lv x < 1
  ·have NG := Lib.hid (GoodTo.no1 (vars := vars) (pre := pre) (x := x) (fun g => by omega))
   generalize lv x = y at *
   gi_wp2
   refine ⟨trivial, ?_⟩
   gi_wp2
   exact ⟨(KeepsOthers.setCell _ _ _).from _, bR.set _, ⟨rfl, NG.out⟩, hB.setCell (p := ⟨w.heap.size + 1, 0, none⟩) (by simp) _⟩
  ·by_cases c2 : vars < lv x
   ·have NG := Lib.hid (GoodTo.no1 (vars := vars) (pre := pre) (x := x) (fun g => by omega))
    generalize lv x = y at *
    gi_wp2
    refine ⟨trivial, ?_⟩
    gi_wp2
    exact ⟨(KeepsOthers.setCell _ _ _).from _, bR.set _, ⟨rfl, NG.out⟩, hB.setCell (p := ⟨w.heap.size + 1, 0, none⟩) (by simp) _⟩
   ·have HR := Lib.hid hrow
    have HG := Lib.hid hG
    have hpl : (pre.map lv).length ≤ 16 := by have := HN.out; simp; omega
    obtain ⟨s, kc, rfl, ii⟩ := own_ints hrow
    have E := Lib.hid (has_any s kc (lv x) (pre.map lv) W (by omega) ii)
    have hk1 : 1 ≤ 6 - 1 - 1 := by omega
    clear ii hG hrow
    cases hb : B (lv x ∈ pre.map lv) with
    | true =>
     rw [hb] at E
     have NG := Lib.hid (GoodTo.no2 (vars := vars) (pre := pre) (x := x) (B_true hb))
     clear hb HR HG
     generalize lv x = y at *
     generalize (pre.map lv).length = m at *
     gi_wp2_with (refine ⟨trivial, ?_⟩; gi_at_call 128; refine (CallsIn.inRound l (callsIn_wide.2 E.out)).mono ?_; rintro e w1 ⟨rfl, b1⟩; have bR1 := boxB bR b1; have hcr1 := bR1.cell; have hfr1 := bR1.frozen)
     exact ⟨(keeps_below b1).trans ((KeepsOthers.setCell _ _ _).from _), bR1.set _, ⟨rfl, NG.out⟩, (bT hB b1).setCell (p := ⟨w.heap.size + 1, 0, none⟩) (by simp) _⟩
    | false =>
     rw [hb] at E
     have HG2 := Lib.hid (HG.out.step (by omega) (by omega) (B_false hb))
     have EM := Lib.hid (show (pre ++ [x]).map lv = pre.map lv ++ [lv x] by simp)
     clear hb HG
     generalize lv x = y at *
     generalize hps : pre.map lv = ps at *
     generalize hm : ps.length = m at *
     gi_wp2_with (first | (refine ⟨trivial, ?_⟩; gi_at_call 128; refine (CallsIn.inRound l (callsIn_wide.2 E.out)).mono ?_; rintro e w1 ⟨rfl, b1⟩; have bS1 := boxB hv b1; have hcs1 := bS1.cell; have hr1 := own_below HR.out b1) | (gi_at_builtin; refine wpListIn_append_own _ rfl _ _ 34 rfl (w.heap.size + 1) 2 i0 (.int .i64 0) 1 8 Tryz.underlying34 hi hz0 hz1 hz2 rfl (by decide) _ _ _ rfl (hr1.alloc _) ⟨w1.heap.size, 0, none⟩ 1 1 [.int .i64 y] rfl rfl (cell_one_new _ _ _) (by simp [Value.oneCell']) (by unfold maxLen; omega) (by omega) (by have := bS1.lt; simp; omega) ?_; intro v' w2 hown' hgrow _; obtain ⟨g', cap', rfl⟩ := ownsRow_succ hown'; obtain ⟨hv1, hv2, hr2, hk2, hb2⟩ := bS1.appended (by decide) hr1 (by have := bS1.lt; omega) (by omega) hown' hgrow; have hc1 := hv1.cell; have hf1 := hv1.frozen))
     have bR1 := boxB bR b1
     have bV1 := boxB bV b1
     have bR2 := (((bR1.alloc _).kept hgrow (bR1.not_row (by decide) hr1)).other (B' := w.heap.size + 1 + 1) (by omega) (.slice (some ⟨g', 0, none⟩) (m + 1) cap'))
     have bV2 : Boxed _ w.heap.size 2 (.int .i64 vars) := (hb2.block w.heap.size (by omega)).trans bV1
     refine ⟨(keeps_below b1).trans (hk2.from _), (b1.mono hB.size).trans (hb2.mono (by omega)), ⟨_, hv2, ?_, trivial⟩, bV2, bR2, HG2.out, (bT hB b1).trans (hb2.mono (by omega))⟩
     rw [EM.out]
     simpa [valsZ, hm] using hr2
 case done =>
  rintro D ys W hD rfl ⟨-, -, bR, hG, hB⟩ hK
  have hcr := bR.cell
  have hfr := bR.frozen
  gi_wp2
  have hK' := (KeepsOthers.setCell W ⟨w.heap.size + 1, 0, none⟩ (.bool true)).same D _ hK rfl
  refine ⟨by simp, .inl ⟨_, _, rfl, run_takeDeferred hK', ?_⟩⟩
  have hc5 := cell_kept (World.cell?_setCell_same' W ⟨w.heap.size + 1, 0, none⟩ (.bool true) (by rw [hcr]; rfl)) (grownBy_putObj' _ D (.deferred none)) (fun r e => by cases e; exact ⟨_, hK', rfl⟩)
  refine ⟨.bool true, ?_, by rw [B_yes hG], (hB.setCell (p := ⟨w.heap.size + 1, 0, none⟩) (by simp) _).trans (belowK_b (w := w) (Nat.le_refl _) _ D _ _ (by simp at hD; omega) hK' rfl rfl)⟩
  simp [results, Tryz.f190, go_sem, hc5]
 case stop =>
  rintro D c pre W hD hpre ⟨bR, ⟨rfl, hG⟩, hB⟩ hK
  have hcr := bR.cell
  gi_wp2
  refine ⟨by simp, .inl ⟨_, _, rfl, run_takeDeferred hK, ?_⟩⟩
  have hc5 := cell_kept hcr (grownBy_putObj' _ D (.deferred none)) (fun r e => by cases e; exact ⟨_, hK, rfl⟩)
  refine ⟨.bool false, ?_, by rw [B_no (fun g => hG (g.prefix hpre))], hB.trans (belowK_b (w := w) (Nat.le_refl _) W D _ _ (by simp at hD; omega) hK rfl rfl)⟩
  simp [results, Tryz.f190, go_sem, hc5]
theorem clr_any (vars : Int) (sl : Option Addr) (cap : Nat) (zs : List Int) (w : World) (hz : Ints w sl zs) :
  Calls Tryz.prog 190 #[.slice sl zs.length cap, .int .i64 vars] w fun e w' => e = .returned (.bool (B (ClR vars zs))) ∧ Below w.heap.size w w' := by
 by_cases h : zs.length ≤ 16
 ·rw [B_iff (show ClR vars zs ↔ GoodTo vars zs from ⟨fun g => g.2, fun g => ⟨h, g⟩⟩)]
  exact clr_short vars sl cap zs w h hz
 ·rw [B_no (p := ClR vars zs) (fun g => h g.1)]
  exact clr_long vars sl _ cap w (by omega)
end Go.Proofs.YtnihhbfgbilimaaGreatDoor
