import Derived.Test.YtnihhbfgbilimaaGreatDoorTw
import Derived.Test.YtnihhbfgbilimaaGreatDoorVaa
import Derived.Deep.AppendLies
import Derived.WalkSmall
import Derived.OwnWalk
import Derived.Deep.RegionHeldLaw
import Derived.Lib.AppendZerosOnto
import Derived.Deep.Upon
import Derived.OpenShut
namespace Go.Proofs.YtnihhbfgbilimaaGreatDoor
open Go.RowKit
set_option linter.unusedVariables false
open List (setIfInBounds_toArray set_cons_zero set_cons_succ getElem_toArray getElem_cons_succ getElem_cons_zero)
theorem info2' : (Tryz.prog.info? 2).map (fun i => (i.zero, i.size, i.bytes)) = some (some (.int .i64 0), 1, 8) := by kernel_rfl
def DomIn0 (w : World) (r : LSt) : Prop := ∃ sl cap, r.2.2.1 = .slice sl r.2.2.2.length cap ∧ Ints w sl r.2.2.2 ∧ r.2.2.2.length ≤ maxLen
structure Sts0 (w : World) (sl : Option Addr) (rs : List LSt) : Prop where
 row : rs = [] ∨ ∃ c o, sl = some ⟨c, o, none⟩ ∧ StAt w c o rs
 dom : ∀ r ∈ rs, DomIn0 w r
theorem DomIn0.below {w w' : World} {r : LSt} (h : DomIn0 w r) (hb : Below w.heap.size w w') : DomIn0 w' r := by
 obtain ⟨sl, cap, e, hi, hl⟩ := h
 exact ⟨sl, cap, e, hi.below hb, hl⟩
theorem Sts0.below {w w' : World} {sl : Option Addr} {rs : List LSt} (h : Sts0 w sl rs) (hb : Below w.heap.size w w') : Sts0 w' sl rs := by
 refine ⟨?_, fun r hr => (h.dom r hr).below hb⟩
 rcases h.row with h | ⟨c, o, e, h⟩
 ·exact .inl h
 ·exact .inr ⟨c, o, e, h.below hb⟩
def Row3 (w : World) (b : Nat) (t : TypeId) (n : Nat) (ts : List (Value × Value × Value)) : Prop :=
 ∃ vs : Array Value, w.heap[b]? = some (.cells vs t) ∧ vs.size = n * 3 ∧ ∀ i (h : i < ts.length), vs[i * 3]? = some ts[i].1 ∧ vs[i * 3 + 1]? = some ts[i].2.1 ∧ vs[i * 3 + 2]? = some ts[i].2.2
theorem Row3.lt {w : World} {b : Nat} {t : TypeId} {n : Nat} {ts : List (Value × Value × Value)} (h : Row3 w b t n ts) : b < w.heap.size := by
 obtain ⟨vs, h1, _⟩ := h
 exact (Array.getElem?_eq_some_iff.1 h1).1
theorem Row3.below {w w' : World} {b : Nat} {t : TypeId} {n : Nat} {ts : List (Value × Value × Value)} (h : Row3 w b t n ts) (hb : Below w.heap.size w w') : Row3 w' b t n ts := by
 have hl := h.lt
 obtain ⟨vs, h1, h2, h3⟩ := h
 exact ⟨vs, (hb.block b hl).trans h1, h2, h3⟩
theorem Row3.at {w : World} {b : Nat} {t : TypeId} {n : Nat} {ts : List (Value × Value × Value)} (h : Row3 w b t n ts) (i : Nat) (hi : i < ts.length) : w.cell? ⟨b, i * 3, none⟩ = some ts[i].1 ∧ w.cell? ⟨b, i * 3 + 1, none⟩ = some ts[i].2.1 ∧ w.cell? ⟨b, i * 3 + 2, none⟩ = some ts[i].2.2 := by
 obtain ⟨vs, h1, h2, h3⟩ := h
 have := h3 i hi
 refine ⟨?_, ?_, ?_⟩ <;> simp [World.cell?, h1, this]
theorem new_at (w : World) (o : Obj) : (w.alloc o).heap[w.heap.size]? = some o := by
 show (w.heap.push _)[w.heap.size]? = _
 simp
def DomOut (b : Nat) (w : World) (r : LSt) : Prop := ∃ g, r.2.2.1 = .slice (some ⟨g, 0, none⟩) r.2.2.2.length r.2.2.2.length ∧ Ints w (some ⟨g, 0, none⟩) r.2.2.2 ∧ b < g ∧ r.2.2.2.length ≤ 1048576
theorem DomOut.below {b : Nat} {w w' : World} {r : LSt} (h : DomOut b w r) (hb : Below w.heap.size w w') : DomOut b w' r := by
 obtain ⟨g, e, hi, hg, hl⟩ := h
 exact ⟨g, e, hi.below hb, hg, hl⟩
abbrev LCl := Value × List Int
abbrev CV (vars : Int) (sl : Option Addr) (n cap : Nat) : Value := .agg #[.int .i64 vars, .slice sl n cap]
def ClAt (w : World) (c o : Nat) (cs : List LCl) : Prop := c < w.heap.size ∧ ∀ i (h : i < cs.length), w.cell? ⟨c, o + i, none⟩ = some cs[i].1
def ClIn (w : World) (r : LCl) : Prop := ∃ sl cap, r.1 = .slice sl r.2.length cap ∧ Ints w sl r.2 ∧ r.2.length ≤ maxLen
structure Cls (w : World) (sl : Option Addr) (cs : List LCl) : Prop where
 row : cs = [] ∨ ∃ c o, sl = some ⟨c, o, none⟩ ∧ ClAt w c o cs
 each : ∀ r ∈ cs, ClIn w r
theorem ClAt.below {w w' : World} {c o : Nat} {cs : List LCl} (h : ClAt w c o cs) (hb : Below w.heap.size w w') : ClAt w' c o cs :=
 ⟨Nat.lt_of_lt_of_le h.1 hb.size, fun i hi => (hb.cell h.1).trans (h.2 i hi)⟩
theorem ClIn.below {w w' : World} {r : LCl} (h : ClIn w r) (hb : Below w.heap.size w w') : ClIn w' r := by
 obtain ⟨sl, cap, e, hi, hl⟩ := h
 exact ⟨sl, cap, e, hi.below hb, hl⟩
theorem Cls.below {w w' : World} {sl : Option Addr} {cs : List LCl} (h : Cls w sl cs) (hb : Below w.heap.size w w') : Cls w' sl cs := by
 refine ⟨?_, fun r hr => (h.each r hr).below hb⟩
 rcases h.row with h | ⟨c, o, e, h⟩
 ·exact .inl h
 ·exact .inr ⟨c, o, e, h.below hb⟩
theorem Cls.at {w : World} {sl : Option Addr} {cs : List LCl} (h : Cls w sl cs) {k : Nat} (hk : k < cs.length) : ∃ c o, sl = some ⟨c, o, none⟩ ∧ ClAt w c o cs := by
 rcases h.row with e | h
 ·rw [e] at hk; simp at hk
 ·exact h
def bareC (cs : List LCl) : List (List Int) := cs.map fun r => r.2
def totC (cs : List LCl) : Nat := (cs.map fun r => r.2.length).sum
theorem totC_mem (cs : List LCl) (r : LCl) (h : r ∈ cs) : r.2.length ≤ totC cs := by
 induction cs with
 | nil => cases h
 | cons a l ih =>
  rcases List.mem_cons.1 h with rfl | h
  ·simp [totC]
  ·have := ih h; simp only [totC, List.map_cons, List.sum_cons] at *; omega
def RowV (w : World) (b : Nat) (n : Nat) (ts : List Value) : Prop :=
 ∃ vs : Array Value, w.heap[b]? = some (.cells vs 34) ∧ vs.size = n ∧ ∀ i (h : i < ts.length), vs[i]? = some ts[i]
theorem RowV.lt {w : World} {b n : Nat} {ts : List Value} (h : RowV w b n ts) : b < w.heap.size := by
 obtain ⟨vs, h1, _⟩ := h
 exact (Array.getElem?_eq_some_iff.1 h1).1
theorem RowV.below {w w' : World} {b n : Nat} {ts : List Value} (h : RowV w b n ts) (hb : Below w.heap.size w w') : RowV w' b n ts := by
 have hl := h.lt
 obtain ⟨vs, h1, h2, h3⟩ := h
 exact ⟨vs, (hb.block b hl).trans h1, h2, h3⟩
theorem info40 : (Tryz.prog.info? 34).map (fun i => (i.zero, i.size, i.bytes)) = some (some (.slice none 0 0), 1, 24) := by kernel_rfl
def ClOut (b : Nat) (w : World) (r : LCl) : Prop := ∃ g, r.1 = .slice (some ⟨g, 0, none⟩) r.2.length r.2.length ∧ Ints w (some ⟨g, 0, none⟩) r.2 ∧ b < g ∧ r.2.length ≤ 1048576
theorem ClOut.below {b : Nat} {w w' : World} {r : LCl} (h : ClOut b w r) (hb : Below w.heap.size w w') : ClOut b w' r := by
 obtain ⟨g, e, hi, hg, hl⟩ := h
 exact ⟨g, e, hi.below hb, hg, hl⟩
theorem at_add (c o i : Nat) : (⟨c, o, none⟩ : Addr).add i = ⟨c, o + i, none⟩ := by
 unfold Addr.add
 by_cases h : i = 0 <;> simp [h]
theorem own_kind {w : World} {B : Nat} {e : TypeId} {m : Nat} {v : Value} {n : Nat} {xs : List Value} (h : w.ownsRow B e m v n xs) {j : Nat} (hj : v.ownBlock = some j) : ∃ cur, w.heap[j]? = some (.cells cur e) := by
 rcases h.2 with ⟨rfl, _⟩ | ⟨g, cap, cur, rfl, _, hg, _⟩
 ·simp [Value.ownBlock] at hj
 ·simp [Value.ownBlock] at hj
  subst hj
  exact ⟨cur, hg⟩
theorem own_diff {w : World} {B B' : Nat} {e e' : TypeId} {m m' : Nat} {v v' : Value} {n n' : Nat} {xs xs' : List Value} (h : w.ownsRow B e m v n xs) (h' : w.ownsRow B' e' m' v' n' xs') (he : e ≠ e') : v.ownBlock = none ∨ v.ownBlock ≠ v'.ownBlock := by
 cases hv : v.ownBlock with
 | none => exact .inl rfl
 | some j =>
  refine .inr fun e2 => ?_
  obtain ⟨c1, h1⟩ := own_kind h hv
  obtain ⟨c2, h2⟩ := own_kind h' e2.symm
  rw [h1] at h2
  simp at h2
  exact he h2.2
theorem valsZ_add (a b : List Int) : valsZ (a ++ b) = valsZ a ++ valsZ b := by simp [valsZ]
def hdC (cs : List LCl) : List Value := cs.map fun r => r.1
theorem hdC_len (cs : List LCl) : (hdC cs).length = cs.length := by simp [hdC]
theorem hdC_add (a b : List LCl) : hdC (a ++ b) = hdC a ++ hdC b := by simp [hdC]
def ApartC (r s : LCl) : Prop := r.1.ownBlock = none ∨ r.1.ownBlock ≠ s.1.ownBlock
structure OwC (w : World) (B : Nat) (v : Value) (cs : List LCl) : Prop where
 row : w.ownsRow B 34 1 v cs.length (hdC cs)
 each : ∀ r ∈ cs, w.ownsRow B 2 1 r.1 r.2.length (valsZ r.2)
 diff : cs.Pairwise ApartC
theorem OwC.nil (w : World) (B : Nat) : OwC w B (.slice none 0 0) [] := ⟨⟨rfl, .inl ⟨rfl, rfl⟩⟩, (fun r h => by cases h), List.Pairwise.nil⟩
theorem OwC.below {w w' : World} {B : Nat} {v : Value} {cs : List LCl} (h : OwC w B v cs) (hb : Below w.heap.size w w') : OwC w' B v cs :=
 ⟨own_below h.row hb, fun r hr => own_below (h.each r hr) hb, h.diff⟩
theorem OwC.mono {w : World} {B B' : Nat} {v : Value} {cs : List LCl} (h : OwC w B v cs) (hB : B' ≤ B) : OwC w B' v cs :=
 ⟨own_mono h.row hB, fun r hr => own_mono (h.each r hr) hB, h.diff⟩
theorem OwC.v {w : World} {B : Nat} {v : Value} {cs : List LCl} (h : OwC w B v cs) : ∃ sl cap, v = .slice sl cs.length cap := own_v h.row
theorem OwC.add {w wa w9 : World} {B : Nat} {v v9 : Value} {cs : List LCl} {r : LCl} (h : OwC w B v cs) (hb : Below w.heap.size w wa) (hr : wa.ownsRow B 2 1 r.1 r.2.length (valsZ r.2)) (hf : ∀ j, r.1.ownBlock = some j → ∀ s ∈ cs, s.1.ownBlock ≠ some j) (hg : wa.grownBy w9 v.ownBlock) (own9 : w9.ownsRow B 34 1 v9 (cs.length + 1) (hdC cs ++ [r.1])) : OwC w9 B v9 (cs ++ [r]) := by
 have ha := h.below hb
 refine ⟨by rw [List.length_append, hdC_add]; exact own9, fun s hs => ?_, ?_⟩
 ·rcases List.mem_append.1 hs with hs | hs
  ·exact (ha.each s hs).kept hg (own_diff (ha.each s hs) ha.row (by decide))
  ·rw [List.mem_singleton.1 hs]
   exact hr.kept hg (own_diff hr ha.row (by decide))
 ·refine List.pairwise_append.2 ⟨h.diff, List.pairwise_singleton _ _, fun s hs t ht => ?_⟩
  rw [List.mem_singleton.1 ht]
  cases e : r.1.ownBlock with
  | none => cases e2 : s.1.ownBlock with
   | none => exact .inl e2
   | some j => exact .inr (by rw [e, e2]; simp)
  | some j => exact .inr (by rw [e]; exact hf j e s hs)
theorem OwC.new {w wa w9 : World} {B : Nat} {v v9 : Value} {cs : List LCl} {r : LCl} (h : OwC w B v cs) (hb : Below w.heap.size w wa) (hr : wa.ownsRow B 2 1 r.1 r.2.length (valsZ r.2)) (hf : ∀ j, r.1.ownBlock = some j → w.heap.size ≤ j) (hg : wa.grownBy w9 v.ownBlock) (own9 : w9.ownsRow B 34 1 v9 (cs.length + 1) (hdC cs ++ [r.1])) : OwC w9 B v9 (cs ++ [r]) :=
 h.add hb hr (fun j hj s hs e => by have := hf j hj; have := ((h.each s hs).lt j e).2; omega) hg own9
theorem bareC_add (a b : List LCl) : bareC (a ++ b) = bareC a ++ bareC b := by simp [bareC]
def ClsTo (vars : Int) (zss : List (List Int)) (k : Nat) : Prop := ∀ i, i < k → ClR vars (zss.getD i [])
def CnfR (vars : Int) (zss : List (List Int)) : Prop := (0 ≤ vars ∧ vars ≤ 96) ∧ zss.length ≤ 4000 ∧ ClsTo vars zss zss.length
theorem ClsTo.zero (vars : Int) (zss : List (List Int)) : ClsTo vars zss 0 := fun i h => absurd h (Nat.not_lt_zero _)
theorem ClsTo.step {vars : Int} {zss : List (List Int)} {k : Nat} (h : ClsTo vars zss k) (g : ClR vars (zss.getD k [])) : ClsTo vars zss (k + 1) := fun i hi => by
 by_cases e : i = k
 ·subst e; exact g
 ·exact h i (by omega)
theorem bareC_get {cs : List LCl} {k : Nat} (h : k < cs.length) : (bareC cs).getD k [] = cs[k].2 := by simp [bareC, h]
theorem bareC_length (cs : List LCl) : (bareC cs).length = cs.length := by simp [bareC]
def CnfAt (w : World) (b : Nat) (vars : Int) (sl : Option Addr) (n cap : Nat) : Prop := w.heap[b]? = some (.cells #[.int .i64 vars, .slice sl n cap] 110)
theorem CnfAt.lt {w : World} {b : Nat} {vars : Int} {sl : Option Addr} {n cap : Nat} (h : CnfAt w b vars sl n cap) : b < w.heap.size := (Array.getElem?_eq_some_iff.1 h).1
theorem CnfAt.below {w w' : World} {b : Nat} {vars : Int} {sl : Option Addr} {n cap : Nat} (h : CnfAt w b vars sl n cap) (hb : Below w.heap.size w w') : CnfAt w' b vars sl n cap := (hb.block b h.lt).trans h
theorem CnfAt.cells {w : World} {b : Nat} {vars : Int} {sl : Option Addr} {n cap : Nat} (h : CnfAt w b vars sl n cap) : w.cell? ⟨b, 0, none⟩ = some (.int .i64 vars) ∧ w.cell? ⟨b, 1, none⟩ = some (.slice sl n cap) := by
 unfold CnfAt at h
 constructor <;> simp [World.cell?, h]
theorem CnfAt.new (w : World) (vars : Int) (sl : Option Addr) (n cap : Nat) : CnfAt (w.alloc (.cells #[.int .i64 vars, .slice sl n cap] 110)) w.heap.size vars sl n cap := new_at _ _
set_option maxRecDepth 100000 in
set_option maxHeartbeats 2000000 in
theorem icr_any (vars : Int) (sl : Option Addr) (cap : Nat) (cs : List LCl) (w : World) (hn : cs.length ≤ maxLen) (hz : Cls w sl cs) :
  Calls Tryz.prog 167 #[CV vars sl cs.length cap] w fun e w' => e = .returned (.bool (B (CnfR vars (bareC cs)))) ∧ Below w.heap.size w w' := by
 unfold maxLen at hn
 have CA := Lib.hid (CnfAt.new w vars sl cs.length cap)
 have B0 := Lib.hid (bA0 w (.cells #[.int .i64 vars, .slice sl cs.length cap] 110))
 have HB := Lib.hid (bareC_length cs)
 by_cases c1 : vars < 0
 ·have NO := Lib.hid (B_no (p := CnfR vars (bareC cs)) (fun g => by have := g.1.1; omega))
  rw [NO.out]
  clear NO hz HB
  generalize cs.length = n at *
  go_enter Tryz.func167, Tryz.ntmps167
  go_wp2
  go_ret
  exact ⟨rfl, B0.out⟩
 by_cases c2 : 96 < vars
 ·have NO := Lib.hid (B_no (p := CnfR vars (bareC cs)) (fun g => by have := g.1.2; omega))
  rw [NO.out]
  clear NO hz HB
  generalize cs.length = n at *
  go_enter Tryz.func167, Tryz.ntmps167
  go_wp2
  go_ret
  exact ⟨rfl, B0.out⟩
 by_cases c3 : 4000 < cs.length
 ·have NO := Lib.hid (B_no (p := CnfR vars (bareC cs)) (fun g => by have := g.2.1; rw [HB.out] at this; omega))
  have c3' : (4000 : Int) < (cs.length : Int) := by omega
  rw [NO.out]
  clear NO hz HB
  generalize cs.length = n at *
  go_enter Tryz.func167, Tryz.ntmps167
  go_wp2
  go_ret
  exact ⟨rfl, B0.out⟩
 have c3' : ¬ (4000 : Int) < (cs.length : Int) := by omega
 have YY := Lib.hid (show ∀ k, cs.length ≤ k → ClsTo vars (bareC cs) k → B (CnfR vars (bareC cs)) = true from fun k hk h => B_yes ⟨⟨by omega, by omega⟩, by rw [HB.out]; omega, fun i hi => h i (by rw [HB.out] at hi; omega)⟩)
 have NN := Lib.hid (show ∀ k, k < cs.length → ¬ ClR vars ((bareC cs).getD k []) → B (CnfR vars (bareC cs)) = false from fun k hk h => B_no (fun g => h (g.2.2 k (by rw [HB.out]; exact hk))))
 have HZ := Lib.hid hz
 clear hz HB
 generalize hN : cs.length = n at *
 have HN := Lib.hid hN
 clear hN
 go_enter Tryz.func167, Tryz.ntmps167
 go_wp2
 go_loopw [22] (fun i wr => ∃ k : Nat, i = .int .i64 k ∧ k ≤ n ∧ Hid (ClsTo vars (bareC cs) k) ∧ Hid (Below (w.alloc (.cells #[.int .i64 vars, .slice sl n cap] 110)).heap.size (w.alloc (.cells #[.int .i64 vars, .slice sl n cap] 110)) wr)) (fun i _ => n - (intOf i).toNat)
 case atStart => exact ⟨0, rfl, Nat.zero_le _, ClsTo.zero _ _, Below.refl _ _⟩
 case round =>
  obtain ⟨k, rfl, hk, IT, H2⟩ := hrel
  have hk0 : (0 : Int) ≤ (k : Int) := by omega
  have DW := Lib.hid (bT B0.out H2.out)
  by_cases g1 : k < n
  ·have g1' : (k : Int) < (n : Int) := by omega
   have hlt : k < cs.length := by rw [HN.out]; exact g1
   have TA := CA.out.below H2.out
   obtain ⟨t0, t1⟩ := TA.cells
   have tl := TA.lt
   obtain ⟨c, o, rfl, Z0⟩ := HZ.out.at hlt
   have hc := (Z0.below DW.out).2 k hlt
   obtain ⟨s1, k1, v1, i1, l1⟩ := (HZ.out.each cs[k] (List.getElem_mem hlt)).below DW.out
   rw [v1] at hc
   have E := Lib.hid (clr_any vars s1 k1 cs[k].2 wr i1)
   have BG := Lib.hid (bareC_get hlt)
   cases hb : B (ClR vars cs[k].2) with
   | true =>
    rw [hb] at E
    have IT2 := Lib.hid (IT.out.step (by rw [BG.out]; exact B_true hb))
    clear hb IT i1 l1 Z0 TA v1 BG
    generalize cs[k].2.length = q at *
    clear hlt
    go_wp2_with fail
    refine E.out.mono ?_
    rintro e w5 ⟨rfl, b5⟩
    have D5 := Lib.hid (bT H2.out b5)
    clear b5 E
    go_wp2
    go_roundw
    case rel => exact ⟨k + 1, by go_num, by omega, IT2, D5⟩
    case measure => simp [intOf]; omega
   | false =>
    rw [hb] at E
    have NO := Lib.hid (NN.out k g1 (by rw [BG.out]; exact B_false hb))
    clear hb IT i1 l1 Z0 TA v1 BG
    generalize cs[k].2.length = q at *
    clear hlt
    go_wp2_with fail
    refine E.out.mono ?_
    rintro e w5 ⟨rfl, b5⟩
    have D5 := Lib.hid (bT DW.out b5)
    clear b5 E
    go_wp2
    go_ret
    exact ⟨by rw [NO.out]; rfl, D5.out⟩
  ·have g1' : ¬ (k : Int) < (n : Int) := by omega
   have YES := Lib.hid (YY.out k (by omega) IT.out)
   clear IT
   go_wp2
   go_ret
   exact ⟨by rw [YES.out]; rfl, DW.out⟩
def ends (p : LPr) : Int × Int := (p.1, p.2.1)
def Lt2 (x y : Int × Int) : Prop := x.1 < y.1 ∨ (x.1 = y.1 ∧ x.2 < y.2)
theorem Lt2.trans {x y z : Int × Int} (h : Lt2 x y) (k : Lt2 y z) : Lt2 x z := by unfold Lt2 at *; omega
def PrOK (ids : List Int) (p : LPr) : Prop := p.1 < p.2.1 ∧ (p.2.2 = 1 ∨ p.2.2 = 2) ∧ p.1 ∈ ids ∧ p.2.1 ∈ ids
def StTo (rs : List LSt) (k : Nat) : Prop := ∀ i (h : i < rs.length), i < k → ((1 ≤ rs[i].1 ∧ rs[i].1 ≤ 999) ∧ StOK rs[i].2.1 rs[i].2.2.2) ∧ (0 < i → (idsL rs).getD (i - 1) 0 < (idsL rs).getD i 0)
theorem StTo.zero (rs : List LSt) : StTo rs 0 := fun i h hk => absurd hk (Nat.not_lt_zero _)
theorem StTo.step {rs : List LSt} {k : Nat} (h : StTo rs k) (hk : k < rs.length) (h1 : (1 ≤ rs[k].1 ∧ rs[k].1 ≤ 999) ∧ StOK rs[k].2.1 rs[k].2.2.2) (h2 : 0 < k → (idsL rs).getD (k - 1) 0 < (idsL rs).getD k 0) : StTo rs (k + 1) := by
 intro i hi hik
 by_cases e : i = k
 ·subst e; exact ⟨h1, h2⟩
 ·exact h i hi (by omega)
def PrTo (ids : List Int) (ps : List LPr) (k : Nat) : Prop := ∀ i (h : i < ps.length), i < k → PrOK ids ps[i] ∧ ∀ h0 : 0 < i, Lt2 (ends (ps[i - 1]'(by omega))) (ends ps[i])
theorem PrTo.zero (ids : List Int) (ps : List LPr) : PrTo ids ps 0 := fun i h hk => absurd hk (Nat.not_lt_zero _)
theorem PrTo.step {ids : List Int} {ps : List LPr} {k : Nat} (h : PrTo ids ps k) (hk : k < ps.length) (h1 : PrOK ids ps[k]) (h2 : ∀ h0 : 0 < k, Lt2 (ends (ps[k - 1]'(by omega))) (ends ps[k])) : PrTo ids ps (k + 1) := by
 intro i hi hik
 by_cases e : i = k
 ·subst e; exact ⟨h1, h2⟩
 ·exact h i hi (by omega)
def wfI (a : Int) : Prop := (Lit.int .i64 a).wf = true
def OkZ (vars z : Int) : Prop := z ≠ 0 ∧ z ≤ vars ∧ -vars ≤ z
def Apart (zs : List Int) (i k : Nat) : Prop := ∀ j, j < k → zs.getD j 0 ≠ zs.getD i 0 ∧ zs.getD j 0 ≠ -zs.getD i 0
def SpTo (vars : Int) (zs : List Int) (n : Nat) : Prop := ∀ i, i < n → OkZ vars (zs.getD i 0) ∧ Apart zs i i
def ClS (vars : Int) (wide : Nat) (zs : List Int) : Prop := zs.length ≤ wide ∧ SpTo vars zs zs.length
theorem SpTo.zero (vars : Int) (zs : List Int) : SpTo vars zs 0 := fun i h => absurd h (Nat.not_lt_zero _)
theorem SpTo.step {vars : Int} {zs : List Int} {k : Nat} (h : SpTo vars zs k) (g : OkZ vars (zs.getD k 0)) (a : Apart zs k k) : SpTo vars zs (k + 1) := fun i hi => by
 by_cases e : i = k
 ·subst e; exact ⟨g, a⟩
 ·exact h i (by omega)
theorem Apart.zero (zs : List Int) (i : Nat) : Apart zs i 0 := fun j h => absurd h (Nat.not_lt_zero _)
theorem Apart.step {zs : List Int} {i k : Nat} (h : Apart zs i k) (g1 : zs.getD k 0 ≠ zs.getD i 0) (g2 : zs.getD k 0 ≠ -zs.getD i 0) : Apart zs i (k + 1) := fun j hj => by
 by_cases e : j = k
 ·subst e; exact ⟨g1, g2⟩
 ·exact h j (by omega)
theorem wrap_in (n : Int) (h : -9223372036854775808 ≤ n ∧ n ≤ 9223372036854775807) : wrap64 n = n := by unfold wrap64; omega
set_option maxRecDepth 100000 in
set_option maxHeartbeats 1000000 in
theorem l06_nil (vars : Int) (sl : Option Addr) (cap wide : Nat) (w : World) :
  Calls Tryz.prog 164 #[.int .i64 vars, .slice sl 0 cap, .int .i64 wide] w fun e w' => e = .returned (.bool true) ∧ Below w.heap.size w w' := by
 have h0 : ¬ (wide : Int) < 0 := by omega
 go_enter Tryz.func164, Tryz.ntmps164
 go_wp2
 refine wp_loop_rounds 1 ?_
 rw [rounds_succ]
 go_wp2
 go_ret
 exact ⟨rfl, Below.refl _ _⟩
set_option maxRecDepth 100000 in
set_option maxHeartbeats 4000000 in
theorem l06_some (vars : Int) (c o cap wide : Nat) (zs : List Int) (w : World) (hv0 : 0 ≤ vars) (hv1 : vars ≤ 96) (hn : zs.length ≤ 1048576) (hz : IntsAt w c o zs) :
  Calls Tryz.prog 164 #[.int .i64 vars, .slice (some ⟨c, o, none⟩) zs.length cap, .int .i64 wide] w fun e w' => e = .returned (.bool (B (ClS vars wide zs))) ∧ Below w.heap.size w w' := by
 have HZ := Lib.hid hz
 clear hz
 have hnv : wrap64 (-vars) = -vars := wrap_in _ ⟨by omega, by omega⟩
 by_cases hw : wide < zs.length
 ·have hw' : (wide : Int) < (zs.length : Int) := by omega
  rw [B_no (p := ClS vars wide zs) (fun g => by have := g.1; omega)]
  clear HZ
  generalize zs.length = n at *
  go_enter Tryz.func164, Tryz.ntmps164
  go_wp2
  go_ret
  exact ⟨rfl, Below.refl _ _⟩
 have hw' : ¬ (wide : Int) < (zs.length : Int) := by omega
 have NN := Lib.hid (show ∀ i, i < zs.length → ¬ (OkZ vars (zs.getD i 0) ∧ Apart zs i i) → B (ClS vars wide zs) = false from fun i hi h => B_no (fun g => h (g.2 i hi)))
 have YY := Lib.hid (show ∀ i, zs.length ≤ i → SpTo vars zs i → B (ClS vars wide zs) = true from fun i hi h => B_yes ⟨by omega, fun j hj => h j (by omega)⟩)
 generalize hN : zs.length = n at *
 have HN := Lib.hid hN
 clear hN
 go_enter Tryz.func164, Tryz.ntmps164
 go_wp2
 go_loopw [7] (fun i wr => ∃ k : Nat, i = .int .i64 k ∧ k ≤ n ∧ Hid (SpTo vars zs k) ∧ Hid (Below w.heap.size w wr)) (fun i _ => n - (intOf i).toNat)
 case atStart => exact ⟨0, rfl, Nat.zero_le _, SpTo.zero _ _, Below.refl _ _⟩
 case round =>
  obtain ⟨i, rfl, hi, H1, H2⟩ := hrel
  have hi0 : (0 : Int) ≤ (i : Int) := by omega
  by_cases h1 : i < n
  ·have h1' : (i : Int) < (n : Int) := by omega
   have hlt : i < zs.length := by rw [HN.out]; exact h1
   have hc : wr.cell? ⟨c, o + i, none⟩ = some (.int .i64 (zs.getD i 0)) := (H2.out.cell HZ.out.1).trans (HZ.out.2 i hlt)
   by_cases a1 : zs.getD i 0 = 0
   ·have HF := Lib.hid (NN.out i h1 (fun g => g.1.1 a1))
    rw [a1] at hc
    clear hlt
    go_wp2
    go_ret
    exact ⟨by rw [HF.out]; rfl, H2.out⟩
   by_cases a2 : vars < zs.getD i 0
   ·have HF := Lib.hid (NN.out i h1 (fun g => by have := g.1.2.1; omega))
    have a1' : (zs.getD i 0 == 0) = false := by simpa using a1
    clear hlt a1
    generalize zs.getD i 0 = z at *
    go_wp2
    go_ret
    exact ⟨by rw [HF.out]; rfl, H2.out⟩
   by_cases a3 : zs.getD i 0 < -vars
   ·have HF := Lib.hid (NN.out i h1 (fun g => by have := g.1.2.2; omega))
    have a1' : (zs.getD i 0 == 0) = false := by simpa using a1
    clear hlt a1
    generalize zs.getD i 0 = z at *
    go_wp2
    go_ret
    exact ⟨by rw [HF.out]; rfl, H2.out⟩
   have OK := Lib.hid (show OkZ vars (zs.getD i 0) from ⟨a1, by omega, by omega⟩)
   have a1' : (zs.getD i 0 == 0) = false := by simpa using a1
   have hnz : wrap64 (-zs.getD i 0) = -zs.getD i 0 := wrap_in _ ⟨by omega, by omega⟩
   have FF := Lib.hid (show ∀ k, k < i → (zs.getD k 0 = zs.getD i 0 ∨ zs.getD k 0 = -zs.getD i 0) → B (ClS vars wide zs) = false from fun k hk e => NN.out i h1 (fun g => by
    have := g.2 k hk
    rcases e with e | e
    ·exact this.1 e
    ·exact this.2 e))
   have SS := Lib.hid (show Apart zs i i → SpTo vars zs (i + 1) from fun a => H1.out.step OK.out a)
   have SA := Lib.hid (show ∀ k, Apart zs i k → zs.getD k 0 ≠ zs.getD i 0 → zs.getD k 0 ≠ -zs.getD i 0 → Apart zs i (k + 1) from fun k a g1 g2 => a.step g1 g2)
   have CZ := Lib.hid (show ∀ W, Below w.heap.size w W → W.cell? ⟨c, o + i, none⟩ = some (.int .i64 (zs.getD i 0)) from fun W hW => (hW.cell HZ.out.1).trans (HZ.out.2 i hlt))
   clear hlt a1 OK H1 NN YY
   generalize zs.getD i 0 = z at *
   go_wp2
   go_loopw [8] (fun j wq => ∃ k : Nat, j = .int .i64 k ∧ k ≤ i ∧ Hid (Apart zs i k) ∧ Hid (Below w.heap.size w wq)) (fun j _ => i - (intOf j).toNat)
   case atStart => exact ⟨0, rfl, Nat.zero_le _, Apart.zero _ _, H2⟩
   case round =>
    obtain ⟨k, rfl, hk, H3, H4⟩ := hrel
    have hk0 : (0 : Int) ≤ (k : Int) := by omega
    by_cases g1 : k < i
    ·have g1' : (k : Int) < (i : Int) := by omega
     have gn : (k : Int) < (n : Int) := by omega
     have hlt : k < zs.length := by rw [HN.out]; omega
     have hd : wr.cell? ⟨c, o + k, none⟩ = some (.int .i64 (zs.getD k 0)) := (H4.out.cell HZ.out.1).trans (HZ.out.2 k hlt)
     have hc : wr.cell? ⟨c, o + i, none⟩ = some (.int .i64 z) := CZ.out wr H4.out
     clear hlt
     by_cases e1 : zs.getD k 0 = z
     ·have HF := Lib.hid (FF.out k g1 (.inl e1))
      rw [e1] at hd
      have hzz : (z == z) = true := by simp
      clear FF SA SS
      go_wp2
      go_quiet (fail)
      go_wp2
      go_ret
      exact ⟨by rw [HF.out]; rfl, below_drewN H4.out _⟩
     ·have e1' : (zs.getD k 0 == z) = false := by simpa using e1
      by_cases e2 : zs.getD k 0 = -z
      ·have HF := Lib.hid (FF.out k g1 (.inr e2))
       rw [e2] at hd e1'
       have hzz : (-z == -z) = true := by simp
       clear FF SA SS e1 e2
       go_wp2
       go_quiet (fail)
       go_wp2
       go_ret
       exact ⟨by rw [HF.out]; rfl, below_drewN H4.out _⟩
      ·have e2' : (zs.getD k 0 == -z) = false := by simpa using e2
       have HS := Lib.hid (SA.out k H3.out e1 e2)
       clear FF SA H3 e1 e2
       generalize zs.getD k 0 = y at *
       go_wp2
       go_quiet (fail)
       go_wp2
       go_roundw
       case rel => exact ⟨k + 1, by go_num, by omega, HS, below_drewN H4.out _⟩
       case measure => simp [intOf]; omega
    ·have g1' : ¬ (k : Int) < (i : Int) := by omega
     have HS := Lib.hid (SS.out (by have := H3.out; rwa [show k = i by omega] at this))
     clear FF SA SS H3
     go_wp2
     go_roundw
     case rel => exact ⟨i + 1, by go_num, by omega, HS, H4⟩
     case measure => simp [intOf]; omega
  ·have h1' : ¬ (i : Int) < (n : Int) := by omega
   have HE := Lib.hid (YY.out i (by omega) H1.out)
   go_wp2
   go_ret
   exact ⟨by rw [HE.out]; rfl, H2.out⟩
theorem wfI_in {z : Int} (h : wfI z) : -9223372036854775808 ≤ z ∧ z ≤ 9223372036854775807 := bounds_i64 h
theorem lv_ok {vars z : Int} (hv0 : 0 ≤ vars) (hv1 : vars ≤ 96) (h : OkZ vars z) : lv z = max z (-z) := by
 unfold lv
 rw [wrap_in _ ⟨by have := h.2.1; omega, by have := h.2.2; omega⟩]
theorem lv_in {vars z : Int} (hv0 : 0 ≤ vars) (hv1 : vars ≤ 96) (hw : wfI z) : (1 ≤ lv z ∧ lv z ≤ vars) ↔ OkZ vars z := by
 have hb := wfI_in hw
 constructor
 ·rintro ⟨h1, h2⟩
  unfold lv wrap64 at h1 h2
  unfold OkZ
  omega
 ·intro h
  rw [lv_ok hv0 hv1 h]
  unfold OkZ at h
  omega
theorem clr_cls {vars : Int} {zs : List Int} (hv0 : 0 ≤ vars) (hv1 : vars ≤ 96) (hw : ∀ z ∈ zs, wfI z) : ClS vars 16 zs ↔ ClR vars zs := by
 have gd : ∀ i (h : i < zs.length), zs.getD i 0 = zs[i] := fun i h => by simp [h]
 constructor
 ·rintro ⟨h1, h2⟩
  have ok : ∀ z ∈ zs, OkZ vars z := fun z hz => by
   obtain ⟨i, hi, rfl⟩ := List.getElem_of_mem hz
   have := (h2 i hi).1
   rwa [gd i hi] at this
  refine ⟨h1, fun z hz => (lv_in hv0 hv1 (hw z hz)).2 (ok z hz), ?_⟩
  rw [List.Nodup, List.pairwise_map, List.pairwise_iff_getElem]
  intro i j hi hj hij
  have := (h2 j hj).2 i hij
  rw [gd i hi, gd j hj] at this
  rw [lv_ok hv0 hv1 (ok _ (List.getElem_mem hi)), lv_ok hv0 hv1 (ok _ (List.getElem_mem hj))]
  omega
 ·rintro ⟨h1, h2, h3⟩
  rw [List.Nodup, List.pairwise_map, List.pairwise_iff_getElem] at h3
  have ok : ∀ z ∈ zs, OkZ vars z := fun z hz => (lv_in hv0 hv1 (hw z hz)).1 (h2 z hz)
  refine ⟨h1, fun j hj => ⟨by rw [gd j hj]; exact ok _ (List.getElem_mem hj), fun i hij => ?_⟩⟩
  have hi : i < zs.length := by omega
  have := h3 i j hi hj hij
  rw [lv_ok hv0 hv1 (ok _ (List.getElem_mem hi)), lv_ok hv0 hv1 (ok _ (List.getElem_mem hj))] at this
  rw [gd i hi, gd j hj]
  omega
theorem l06_any (vars : Int) (sl : Option Addr) (cap : Nat) (zs : List Int) (w : World) (hv0 : 0 ≤ vars) (hv1 : vars ≤ 96) (hn : zs.length ≤ 1048576) (hw : ∀ z ∈ zs, wfI z) (hz : Ints w sl zs) :
  Calls Tryz.prog 164 #[.int .i64 vars, .slice sl zs.length cap, .int .i64 16] w fun e w' => e = .returned (.bool (B (ClR vars zs))) ∧ Below w.heap.size w w' := by
 rw [← B_iff (clr_cls hv0 hv1 hw)]
 rcases hz with rfl | ⟨c, o, rfl, h⟩
 ·rw [B_yes (show ClS vars 16 [] from ⟨Nat.zero_le _, SpTo.zero _ _⟩)]
  exact l06_nil vars sl cap 16 w
 ·exact l06_some vars c o cap 16 zs w hv0 hv1 hn h
def WfC (cs : List LCl) : Prop := ∀ r ∈ cs, ∀ z ∈ r.2, wfI z
set_option maxRecDepth 100000 in
set_option maxHeartbeats 2000000 in
theorem scr_any (vars : Int) (sl : Option Addr) (cap : Nat) (cs : List LCl) (w : World) (hn : cs.length ≤ maxLen) (hs : totC cs ≤ 1048576) (hwf : WfC cs) (hz : Cls w sl cs) :
  Calls Tryz.prog 131 #[CV vars sl cs.length cap] w fun e w' => e = .returned (.bool (B (CnfR vars (bareC cs)))) ∧ Below w.heap.size w w' := by
 unfold maxLen at hn
 have CA := Lib.hid (CnfAt.new w vars sl cs.length cap)
 have B0 := Lib.hid (bA0 w (.cells #[.int .i64 vars, .slice sl cs.length cap] 110))
 have HB := Lib.hid (bareC_length cs)
 by_cases c1 : vars < 0
 ·have NO := Lib.hid (B_no (p := CnfR vars (bareC cs)) (fun g => by have := g.1.1; omega))
  rw [NO.out]
  clear NO hz HB hwf
  generalize cs.length = n at *
  go_enter Tryz.func131, Tryz.ntmps131
  go_wp2
  go_ret
  exact ⟨rfl, B0.out⟩
 by_cases c2 : 96 < vars
 ·have NO := Lib.hid (B_no (p := CnfR vars (bareC cs)) (fun g => by have := g.1.2; omega))
  rw [NO.out]
  clear NO hz HB hwf
  generalize cs.length = n at *
  go_enter Tryz.func131, Tryz.ntmps131
  go_wp2
  go_ret
  exact ⟨rfl, B0.out⟩
 by_cases c3 : 4000 < cs.length
 ·have NO := Lib.hid (B_no (p := CnfR vars (bareC cs)) (fun g => by have := g.2.1; rw [HB.out] at this; omega))
  have c3' : (4000 : Int) < (cs.length : Int) := by omega
  rw [NO.out]
  clear NO hz HB hwf
  generalize cs.length = n at *
  go_enter Tryz.func131, Tryz.ntmps131
  go_wp2
  go_ret
  exact ⟨rfl, B0.out⟩
 have c3' : ¬ (4000 : Int) < (cs.length : Int) := by omega
 have YY := Lib.hid (show ∀ k, cs.length ≤ k → ClsTo vars (bareC cs) k → B (CnfR vars (bareC cs)) = true from fun k hk h => B_yes ⟨⟨by omega, by omega⟩, by rw [HB.out]; omega, fun i hi => h i (by rw [HB.out] at hi; omega)⟩)
 have NN := Lib.hid (show ∀ k, k < cs.length → ¬ ClR vars ((bareC cs).getD k []) → B (CnfR vars (bareC cs)) = false from fun k hk h => B_no (fun g => h (g.2.2 k (by rw [HB.out]; exact hk))))
 have HZ := Lib.hid hz
 have HS := Lib.hid (fun r hr => Nat.le_trans (totC_mem cs r hr) hs)
 have HW := Lib.hid hwf
 clear hz HB hs hwf
 generalize hN : cs.length = n at *
 have HN := Lib.hid hN
 clear hN
 go_enter Tryz.func131, Tryz.ntmps131
 go_wp2
 go_loopw [3] (fun i wr => ∃ k : Nat, i = .int .i64 k ∧ k ≤ n ∧ Hid (ClsTo vars (bareC cs) k) ∧ Hid (Below (w.alloc (.cells #[.int .i64 vars, .slice sl n cap] 110)).heap.size (w.alloc (.cells #[.int .i64 vars, .slice sl n cap] 110)) wr)) (fun i _ => n - (intOf i).toNat)
 case atStart => exact ⟨0, rfl, Nat.zero_le _, ClsTo.zero _ _, Below.refl _ _⟩
 case round =>
  obtain ⟨k, rfl, hk, IT, H2⟩ := hrel
  have hk0 : (0 : Int) ≤ (k : Int) := by omega
  have DW := Lib.hid (bT B0.out H2.out)
  have TA := CA.out.below H2.out
  obtain ⟨t0, t1⟩ := TA.cells
  have tl := TA.lt
  by_cases g1 : k < n
  ·have g1' : (k : Int) < (n : Int) := by omega
   have hlt : k < cs.length := by rw [HN.out]; exact g1
   obtain ⟨g, o, rfl, Z0⟩ := HZ.out.at hlt
   have hc := (Z0.below DW.out).2 k hlt
   have hgl := (Z0.below DW.out).1
   obtain ⟨s1, k1, v1, i1, l1⟩ := (HZ.out.each cs[k] (List.getElem_mem hlt)).below DW.out
   rw [v1] at hc
   have E : Hid (∀ W, Below wr.heap.size wr W → Calls Tryz.prog 164 #[.int .i64 vars, .slice s1 cs[k].2.length k1, .int .i64 16] W fun e w' => e = .returned (.bool (B (ClR vars cs[k].2))) ∧ Below W.heap.size W w') := fun W hW => l06_any vars s1 k1 cs[k].2 W (by omega) (by omega) (HS.out _ (List.getElem_mem hlt)) (HW.out _ (List.getElem_mem hlt)) (i1.below hW)
   have BG := Lib.hid (bareC_get hlt)
   cases hb : B (ClR vars cs[k].2) with
   | true =>
    rw [hb] at E
    have IT2 := Lib.hid (IT.out.step (by rw [BG.out]; exact B_true hb))
    clear hb IT i1 l1 Z0 v1 BG
    generalize cs[k].2.length = q at *
    clear hlt
    have KB : Hid (∀ W, Below wr.heap.size wr W → w.heap.size < W.heap.size ∧ g < W.heap.size ∧ W.cell? ⟨w.heap.size, 0, none⟩ = some (.int .i64 vars) ∧ W.cell? ⟨w.heap.size, 1, none⟩ = some (.slice (some ⟨g, o, none⟩) n cap) ∧ W.cell? ⟨g, o + k, none⟩ = some (.slice s1 q k1)) := fun W hW => ⟨Nat.lt_of_lt_of_le tl hW.size, Nat.lt_of_lt_of_le hgl hW.size, (hW.cell tl).trans t0, (hW.cell tl).trans t1, (hW.cell hgl).trans hc⟩
    clear TA
    go_wp2_with fail
    refine wp_region_held_drew (S := fun W => w.heap.size < W.heap.size ∧ g < W.heap.size ∧ W.cell? ⟨w.heap.size, 0, none⟩ = some (.int .i64 vars) ∧ W.cell? ⟨w.heap.size, 1, none⟩ = some (.slice (some ⟨g, o, none⟩) n cap) ∧ W.cell? ⟨g, o + k, none⟩ = some (.slice s1 q k1)) (by kernel_rfl) ?_ (fun hHeld => ?_)
    ·exact KB.out _ (Below.refl _ _).drew
    refine tw (i := 0) rfl ?_
    refine tw (i := 1) rfl ?_
    refine tw (i := 2) rfl ?_
    refine tw (i := 3) rfl ?_
    try simp only [Act.put, setIfInBounds_toArray, set_cons_zero, set_cons_succ, getElem_toArray, getElem_cons_succ, getElem_cons_zero]
    refine tw (i := 4) rfl ?_
    refine tw (i := 5) rfl ?_
    refine tw (i := 6) rfl ?_
    try simp only [Act.put, setIfInBounds_toArray, set_cons_zero, set_cons_succ, getElem_toArray, getElem_cons_succ, getElem_cons_zero]
    refine wpAnyH_ready (rs := [7]) (by kernel_rfl) (by simp) ?_
    refine AllReadyH.cons rfl (fun K hK => ?_) AllReadyH.nil
    go_simp
    go_wp2_with (go_at_call 164; refine (E.out _ (by first | exact Below.refl _ _ | exact (Below.refl _ _).drew | exact Go.below_drewN (Below.refl _ _) _)).mono ?_; rintro e w5 ⟨rfl, b5⟩)
    have D5 : Hid (Below wr.heap.size wr w5) := bT ((Below.refl wr.heap.size wr).drew) b5
    clear b5
    refine hK.out _ _ ?_ (fun hHeld => ?_)
    ·exact KB.out _ D5.out
    clear hK K
    refine tw (i := 8) rfl ?_
    try simp only [Act.put, setIfInBounds_toArray, set_cons_zero, set_cons_succ, getElem_toArray, getElem_cons_succ, getElem_cons_zero]
    refine wpAnyH_done (by kernel_rfl) ?_ _
    have BQ5 := Lib.hid (bT H2.out D5.out)
    clear D5 KB E
    go_wp2_with fail
    go_roundw
    case rel => exact ⟨k + 1, by go_num, by omega, IT2, BQ5⟩
    case measure => simp [intOf]; omega
   | false =>
    rw [hb] at E
    have NO := Lib.hid (NN.out k g1 (by rw [BG.out]; exact B_false hb))
    clear hb IT i1 l1 Z0 v1 BG
    generalize cs[k].2.length = q at *
    clear hlt
    have KB : Hid (∀ W, Below wr.heap.size wr W → w.heap.size < W.heap.size ∧ g < W.heap.size ∧ W.cell? ⟨w.heap.size, 0, none⟩ = some (.int .i64 vars) ∧ W.cell? ⟨w.heap.size, 1, none⟩ = some (.slice (some ⟨g, o, none⟩) n cap) ∧ W.cell? ⟨g, o + k, none⟩ = some (.slice s1 q k1)) := fun W hW => ⟨Nat.lt_of_lt_of_le tl hW.size, Nat.lt_of_lt_of_le hgl hW.size, (hW.cell tl).trans t0, (hW.cell tl).trans t1, (hW.cell hgl).trans hc⟩
    clear TA
    go_wp2_with fail
    refine wp_region_held_drew (S := fun W => w.heap.size < W.heap.size ∧ g < W.heap.size ∧ W.cell? ⟨w.heap.size, 0, none⟩ = some (.int .i64 vars) ∧ W.cell? ⟨w.heap.size, 1, none⟩ = some (.slice (some ⟨g, o, none⟩) n cap) ∧ W.cell? ⟨g, o + k, none⟩ = some (.slice s1 q k1)) (by kernel_rfl) ?_ (fun hHeld => ?_)
    ·exact KB.out _ (Below.refl _ _).drew
    refine tw (i := 0) rfl ?_
    refine tw (i := 1) rfl ?_
    refine tw (i := 2) rfl ?_
    refine tw (i := 3) rfl ?_
    try simp only [Act.put, setIfInBounds_toArray, set_cons_zero, set_cons_succ, getElem_toArray, getElem_cons_succ, getElem_cons_zero]
    refine tw (i := 4) rfl ?_
    refine tw (i := 5) rfl ?_
    refine tw (i := 6) rfl ?_
    try simp only [Act.put, setIfInBounds_toArray, set_cons_zero, set_cons_succ, getElem_toArray, getElem_cons_succ, getElem_cons_zero]
    refine wpAnyH_ready (rs := [7]) (by kernel_rfl) (by simp) ?_
    refine AllReadyH.cons rfl (fun K hK => ?_) AllReadyH.nil
    go_simp
    go_wp2_with (go_at_call 164; refine (E.out _ (by first | exact Below.refl _ _ | exact (Below.refl _ _).drew | exact Go.below_drewN (Below.refl _ _) _)).mono ?_; rintro e w5 ⟨rfl, b5⟩)
    have D5 : Hid (Below wr.heap.size wr w5) := bT ((Below.refl wr.heap.size wr).drew) b5
    clear b5
    refine hK.out _ _ ?_ (fun hHeld => ?_)
    ·exact KB.out _ D5.out
    clear hK K
    refine tw (i := 8) rfl ?_
    try simp only [Act.put, setIfInBounds_toArray, set_cons_zero, set_cons_succ, getElem_toArray, getElem_cons_succ, getElem_cons_zero]
    refine wpAnyH_done (by kernel_rfl) ?_ _
    have BQ5 := Lib.hid (bT DW.out D5.out)
    clear D5 KB E
    go_wp2_with fail
    go_ret
    exact ⟨by rw [NO.out]; rfl, BQ5.out⟩
  ·have g1' : ¬ (k : Int) < (n : Int) := by omega
   have YES := Lib.hid (YY.out k (by omega) IT.out)
   clear IT
   go_wp2
   go_ret
   exact ⟨by rw [YES.out]; rfl, DW.out⟩
set_option maxHeartbeats 1000000 in
theorem lhas_any (sl : Option Addr) (cap : Nat) (zs : List Int) (x : Int) (w : World) (hn : zs.length ≤ maxLen) (hz : Ints w sl zs) :
  Calls Tryz.prog 87 #[.slice sl zs.length cap, .int .i64 x] w fun e w' => e = .returned (.bool (B (x ∈ zs))) ∧ w' = w := by
 unfold maxLen at hn
 have HZ := Lib.hid hz
 clear hz
 generalize hR : B (x ∈ zs) = r
 have HR := Lib.hid hR
 clear hR
 generalize hN : zs.length = n at *
 have HN := Lib.hid hN
 clear hN
 go_enter Tryz.func87, Tryz.ntmps87
 go_wp2
 go_loopw [5] (fun i wr => ∃ k : Nat, i = .int .i64 k ∧ k ≤ n ∧ Hid (NotIn zs x k) ∧ wr = w) (fun i _ => n - (intOf i).toNat)
 case atStart => exact ⟨0, rfl, Nat.zero_le _, fun i h => absurd h (Nat.not_lt_zero _), rfl⟩
 case round =>
  obtain ⟨k, rfl, hk, NI, rfl⟩ := hrel
  have hk0 : (0 : Int) ≤ (k : Int) := by omega
  by_cases h1 : k < n
  ·have h1' : (k : Int) < (n : Int) := by omega
   have hlt : k < zs.length := by rw [HN.out]; exact h1
   obtain ⟨c, o, rfl, ZI⟩ : ∃ c o, sl = some ⟨c, o, none⟩ ∧ IntsAt wr c o zs := by
    rcases HZ.out with e | h
    ·rw [e] at hlt; simp at hlt
    ·exact h
   have hc := ZI.2 k hlt
   by_cases hx : zs.getD k 0 = x
   ·have R := Lib.hid (show r = true by rw [← HR.out]; exact B_yes (by rw [← hx]; simp [hlt]))
    have hx' : (zs.getD k 0 == x) = true := beq_iff_eq.2 hx
    generalize zs.getD k 0 = z at *
    clear hlt ZI hx
    go_wp2
    go_ret
    exact ⟨by rw [R.out]; rfl, rfl⟩
   ·have hx' : (zs.getD k 0 == x) = false := beq_eq_false_iff_ne.2 hx
    have NI2 := Lib.hid (show NotIn zs x (k + 1) from fun i hi => by
     by_cases e : i = k
     ·subst e; exact hx
     ·exact NI.out i (by omega))
    generalize zs.getD k 0 = z at *
    clear hlt ZI hx NI
    go_wp2
    go_roundw
    case rel => exact ⟨k + 1, by go_num, by omega, NI2, trivial⟩
    case measure => simp [intOf]; omega
  ·have h1' : ¬ (k : Int) < (n : Int) := by omega
   have R := Lib.hid (show r = false by
    rw [← HR.out]
    refine B_no (notIn_mem ?_)
    have := NI.out
    rwa [show k = zs.length by rw [HN.out]; omega] at this)
   clear NI
   go_wp2
   go_ret
   exact ⟨by rw [R.out]; rfl, rfl⟩
end Go.Proofs.YtnihhbfgbilimaaGreatDoor
