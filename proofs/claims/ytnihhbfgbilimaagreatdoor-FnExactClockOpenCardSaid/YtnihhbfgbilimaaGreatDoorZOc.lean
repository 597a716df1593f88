import Derived.Test.YtnihhbfgbilimaaGreatDoorZKa
import Derived.Test.YtnihhbfgbilimaaGreatDoorKAla
import Derived.Test.YtnihhbfgbilimaaGreatDoorZOa
import Derived.Test.YtnihhbfgbilimaaGreatDoorKAlb
import Derived.Test.YtnihhbfgbilimaaGreatDoorKOba
import Derived.Test.YtnihhbfgbilimaaGreatDoorZUa
import Derived.Shelf.Spec.TrailingZeros
import Derived.ChangeSame
import Derived.ChangeSlices
import Derived.ChangeArms
import Derived.Deep.Strs
import Derived.Deep.Slices
import Derived.Recover
import Derived.Laws.CopyOwn
import Derived.Laws.Rows
import Derived.Laws.Tables
import Derived.Test.YtnihhbfgbilimaaGreatDoorProg
import Derived.DeepKeys4
import Derived.MapViews
import Derived.Maps.Own
import Derived.Maps.OwnOps
import Derived.Maps.OwnSet
import Derived.Maps.RangeWalk
import Derived.Deep.RegionHeld3
import Derived.Sort.OwnSorted
import Derived.Laws.StructEq
import Derived.Ground.SlsfProg
import Derived.Shelf.SlSortCmp.WholeK
import Derived.Shelf.SlSortCmp.NoneTotal
namespace Go.Proofs.YtnihhbfgbilimaaGreatDoor
open Go.RowKit
set_option linter.unusedVariables false
theorem dom_bareR (id top : Int) {rs rs' : List LSt} (h : bareS rs = bareS rs') : rs.flatMap (domF id top) = rs'.flatMap (domF id top) := by
 have e : ∀ l : List LSt, l.flatMap (domF id top) = (bareS l).flatMap (fun r => domF id top (r.1, r.2.1, .slice none 0 0, r.2.2)) := fun l => by
  unfold bareS
  rw [List.flatMap_map]
  rfl
 rw [e, e, h]
theorem idsR_bare {rs rs' : List LSt} (ps : List LPr) (zs : List Int) (h : bareS rs = bareS rs') : IdsR rs ps zs = IdsR rs' ps zs := by
 apply propext
 unfold IdsR
 rw [idsL_bare h]
 constructor
 ·rintro ⟨a, b, c⟩; exact ⟨a, TabR_bare ps h b, c⟩
 ·rintro ⟨a, b, c⟩; exact ⟨a, TabR_bare ps h.symm b, c⟩
theorem chF_bareR {rs rs' : List LSt} (top : Int) (h : bareS rs = bareS rs') : chF rs top = chF rs' top := by
 funext id
 unfold chF
 rw [dom_bareR id top h]
theorem askR_bare {rs rs' : List LSt} (ps : List LPr) (top : Int) (ids : List Int) (bud : Int) (h : bareS rs = bareS rs') : askR rs ps top ids bud = askR rs' ps top ids bud := by
 have h1 : cnA rs ps top ids = cnA rs' ps top ids := by unfold cnA; rw [idsR_bare ps ids h, chF_bareR top h]
 have h2 : cnN rs ps top ids = cnN rs' ps top ids := by unfold cnN plF; rw [idsR_bare ps ids h, chF_bareR top h]
 unfold askR
 rw [h1, h2]
abbrev AV (x hw : Int) (vp vl : Value) (st c : Int) : Value := .agg #[.int .i64 x, .int .i64 hw, vp, vl, .int .i64 st, .int .i64 c]
abbrev AC (x hw : Int) (vp vl : Value) (st c : Int) : Obj := .cells #[.int .i64 x, .int .i64 hw, vp, vl, .int .i64 st, .int .i64 c] 49
theorem cells6a {w : World} {b : Nat} {t : TypeId} {a0 a1 a2 a3 a4 a5 : Value} (h : w.heap[b]? = some (.cells #[a0, a1, a2, a3, a4, a5] t)) :
  w.cell? ⟨b, 0, none⟩ = some a0 ∧ w.cell? ⟨b, 1, none⟩ = some a1 ∧ w.cell? ⟨b, 2, none⟩ = some a2 ∧ w.cell? ⟨b, 3, none⟩ = some a3 ∧ w.cell? ⟨b, 4, none⟩ = some a4 ∧ w.cell? ⟨b, 5, none⟩ = some a5 ∧ b < w.heap.size := by
 refine ⟨?_, ?_, ?_, ?_, ?_, ?_, (Array.getElem?_eq_some_iff.1 h).1⟩ <;> simp [World.cell?, h]
set_option maxRecDepth 100000 in
set_option maxHeartbeats 2000000 in
theorem eqAO_any (x hw st c : Int) (P : List LPl) (s1 s2 : Option Addr) (k1 k2 : Nat) (l1 l2 : Option Addr) (j1 j2 : Nat) (ls ls' : List LCl) (w : World) (hP : P.length ≤ 1048576) (hl : ls.length ≤ 1048576) (he : bareC ls = bareC ls') (i1 : Pls w s1 P) (i2 : Pls w s2 P) (c1 : Cls w l1 ls) (c2 : Cls w l2 ls') :
  Calls Tryz.prog 22 #[AV x hw (.slice s1 P.length k1) (.slice l1 ls.length j1) st c, AV x hw (.slice s2 P.length k2) (.slice l2 ls'.length j2) st c] w fun e w' => e = .returned (.bool true) ∧ Below w.heap.size w w' := by
 have E1 : Hid (∀ W, Below w.heap.size w W → Calls Tryz.prog 33 #[.slice s1 P.length k1, .slice s2 P.length k2] W fun e w' => e = .returned (.bool true) ∧ Below W.heap.size W w') := fun W hW => eqPlS_any s1 s2 k1 k2 P W hP (i1.below hW) (i2.below hW)
 have E2 : Hid (∀ W, Below w.heap.size w W → Calls Tryz.prog 49 #[.slice l1 ls.length j1, .slice l2 ls'.length j2] W fun e w' => e = .returned (.bool true) ∧ Below W.heap.size W w') := fun W hW => eqL_any l1 l2 j1 j2 ls ls' W hl he (c1.below hW) (c2.below hW)
 clear i1 i2 c1 c2 he
 have hx : (x != x) = false := by simp
 have hh : (hw != hw) = false := by simp
 have hst : (st != st) = false := by simp
 have hc' : (c != c) = false := by simp
 generalize P.length = p at *
 generalize ls.length = n at *
 generalize ls'.length = n' at *
 go_enter Tryz.func22, Tryz.ntmps22
 go_wp2_with fail
 refine (E1.out _ (bA (bA0 _ _) _)).mono ?_
 rintro e w1 ⟨rfl, b1⟩
 have D1 := Lib.hid (bT (bA (bA0 w _) _) b1)
 have A1 := Lib.hid b1
 obtain ⟨hc, hf⟩ := bcell b1
 clear b1
 go_wp2_with fail
 refine (E2.out _ D1.out).mono ?_
 rintro e w2 ⟨rfl, b2⟩
 have D2 := Lib.hid (bT D1.out b2)
 have A2 := Lib.hid (bT A1.out b2)
 clear hc hf
 obtain ⟨hc, hf⟩ := bcell A2.out
 clear b2 A1
 go_wp2
 go_ret
 exact ⟨rfl, D2.out⟩
set_option maxRecDepth 100000 in
set_option maxHeartbeats 2000000 in
theorem hdAO_any (B : Nat) (x hw st c : Int) (n : Nat) (vp vl : Value) (ls : List LCl) (W : World) (hP : n ≤ 1048576) (hl : ls.length ≤ 1000) (hr : ∀ r ∈ ls, r.2.length ≤ 1000) (ht : totC ls ≤ 500000000) (o : W.ownsRow B 131 2 vp n (valsZ (marks 1 (n * 2)))) (oc : OwC W B vl (mkC (1 + 2 * (n : Int)) ls)) :
  Calls Tryz.prog 28 #[AV x hw vp vl st c, .int .i64 1] W fun e w' => e = .returned (.int .i64 (1 + 2 * (n : Int) + (totC ls : Int))) ∧ Below W.heap.size W w' := by
 obtain ⟨ps, pk, rfl⟩ := own_v o
 obtain ⟨lv, lk, e9⟩ := oc.v
 rw [mkC_len] at e9
 subst e9
 have b1 := bA0 W (AC x hw (.slice ps n pk) (.slice lv ls.length lk) st c)
 have X1 : (W.alloc (AC x hw (.slice ps n pk) (.slice lv ls.length lk) st c)).heap[W.heap.size]? = some (AC x hw (.slice ps n pk) (.slice lv ls.length lk) st c) := new_at _ _
 have C1 := Lib.hid (held2_row B (.slice ps n pk) n 1 hP (by omega) (by omega) (W.alloc (AC x hw (.slice ps n pk) (.slice lv ls.length lk) st c)) (own_below o b1))
 have C2 := Lib.hid (hdL_any B (.slice lv ls.length lk) ls (1 + 2 * (n : Int)) (W.alloc (AC x hw (.slice ps n pk) (.slice lv ls.length lk) st c)) (by omega) (fun r hr' => by have := hr r hr'; omega) ht (by omega) (by omega) (oc.below b1))
 have B1 := Lib.hid b1
 obtain ⟨p0, p1, p2, p3, p4, p5, y1⟩ := cells6a X1
 have h1 : ¬ (1 + 2 * (n : Int)) < 0 := by omega
 have h2 : ¬ (1 + 2 * (n : Int) + (totC ls : Int)) < 0 := by omega
 clear b1 X1 o oc hr
 generalize 1 + 2 * (n : Int) + (totC ls : Int) = kk at *
 generalize 1 + 2 * (n : Int) = kj at *
 generalize ls.length = ln at *
 go_enter Tryz.func28, Tryz.ntmps28
 go_wp2_with fail
 refine C1.out.mono ?_
 rintro e w1 ⟨rfl, rfl⟩
 go_wp2_with fail
 refine C2.out.mono ?_
 rintro e w2 ⟨rfl, rfl⟩
 go_wp2
 go_ret
 exact ⟨rfl, B1.out⟩
def AOw (B : Nat) (P : List LPl) (L : List (List Int)) (vp vl : Value) (W : World) : Prop := W.ownsRow B 131 2 vp P.length (enCells P) ∧ ∃ ls, OwC W B vl ls ∧ bareC ls = L
def AOm (B : Nat) (n : Nat) (L : List (List Int)) (vp vl : Value) (W : World) : Prop := W.ownsRow B 131 2 vp n (valsZ (marks 1 (n * 2))) ∧ ∃ ls, OwC W B vl (mkC (1 + 2 * (n : Int)) ls) ∧ bareC ls = L
theorem AOw.below {B : Nat} {P : List LPl} {L : List (List Int)} {vp vl : Value} {W W' : World} (h : AOw B P L vp vl W) (hb : Below W.heap.size W W') : AOw B P L vp vl W' := ⟨own_below h.1 hb, by obtain ⟨ls, o, e⟩ := h.2; exact ⟨ls, o.below hb, e⟩⟩
theorem AOm.below {B n : Nat} {L : List (List Int)} {vp vl : Value} {W W' : World} (h : AOm B n L vp vl W) (hb : Below W.heap.size W W') : AOm B n L vp vl W' := ⟨own_below h.1 hb, by obtain ⟨ls, o, e⟩ := h.2; exact ⟨ls, o.below hb, e⟩⟩
def AOl (T : Nat) (P : List LPl) (L : List (List Int)) (vp vl : Value) (W : World) : Prop := (∃ B, W.ownsRow B 131 2 vp P.length (enCells P)) ∧ (∀ j, vp.ownBlock = some j → j < T) ∧ ∃ B ls, OwC W B vl ls ∧ bareC ls = L ∧ (∀ j, vl.ownBlock = some j → j < T) ∧ ∀ r ∈ ls, ∀ j, r.1.ownBlock = some j → j < T
theorem AOl.btw {X Y T : Nat} {P : List LPl} {L : List (List Int)} {vp vl : Value} {W W' : World} (h : AOl T P L vp vl W) (hb : Btw X Y W W') (hX : T ≤ X) : AOl T P L vp vl W' := by
 obtain ⟨⟨B, o⟩, l1, B', ls, oc, e, l2, l3⟩ := h
 exact ⟨⟨B, own_btw o hb (fun j hj => .inl (Nat.lt_of_lt_of_le (l1 j hj) hX))⟩, l1, B', ls, oc.btw hb (fun j hj => .inl (Nat.lt_of_lt_of_le (l2 j hj) hX)) (fun r hr j hj => .inl (Nat.lt_of_lt_of_le (l3 r hr j hj) hX)), e, l2, l3⟩
theorem AOl.below {C T : Nat} {P : List LPl} {L : List (List Int)} {vp vl : Value} {W W' : World} (h : AOl T P L vp vl W) (hb : Below C W W') (hC : T ≤ C) (hC' : C ≤ W.heap.size) : AOl T P L vp vl W' :=
 h.btw (X := C) (Y := W.heap.size) ⟨hb.os, hb.tape, hb.output, hb.size, fun k hk g => hb.block k (by omega)⟩ hC
def totQ (L : List (List Int)) : Nat := (L.map List.length).sum
theorem totC_q (ls : List LCl) : totC ls = totQ (bareC ls) := by simp [totC, totQ, bareC, Function.comp_def]
theorem AOm.held {B n : Nat} {L : List (List Int)} {vp vl : Value} {W : World} (x hw st c : Int) (h : AOm B n L vp vl W) (hP : n ≤ 1048576) (hL : L.length ≤ 1000) (hr : ∀ l ∈ L, l.length ≤ 1000) :
  Calls Tryz.prog 28 #[AV x hw vp vl st c, .int .i64 1] W fun e w' => e = .returned (.int .i64 (1 + 2 * (n : Int) + (totQ L : Int))) ∧ Below W.heap.size W w' := by
 obtain ⟨o, ls, oc, e⟩ := h
 subst e
 have hl : ls.length ≤ 1000 := by rw [← bareC_length]; exact hL
 have h2 : ∀ r ∈ ls, r.2.length ≤ 1000 := fun r hr2 => hr r.2 (List.mem_map.2 ⟨r, hr2, rfl⟩)
 have h3 := tot_le h2
 have := hdAO_any B x hw st c n vp vl ls W hP hl h2 (by omega) o oc
 rwa [totC_q] at this
structure AskF where
 x : Int
 hw : Int
 st : Int
 c : Int
 P : List LPl
 L : List (List Int)
open Classical in
noncomputable def askF (rs : List LSt) (ps : List LPr) (top : Int) (ids : List Int) (bud : Int) : AskF :=
 if 400 < ids.length then ⟨0, 0, 0, 2, [], []⟩ else if ¬ (IdsR rs ps ids ∧ BudR bud) then ⟨0, 0, 0, 1, [], []⟩ else
  ⟨(askR rs ps top ids bud).1.1, 2, (askR rs ps top ids bud).1.2.2.2, 0, if (askR rs ps top ids bud).1.1 = 1 then askP rs ps top ids bud else [], (askR rs ps top ids bud).1.2.2.1⟩
theorem ask_form {rs : List LSt} {ps : List LPr} {top : Int} {ids : List Int} {bud : Int} {w : World} {e : Ending} {w' : World} (h : AskPost (400 < ids.length) (¬ (IdsR rs ps ids ∧ BudR bud)) (askR rs ps top ids bud).1 (enCells (askP rs ps top ids bud)) (askP rs ps top ids bud).length w e w') :
  ∃ vp vl, e = .returned (AV (askF rs ps top ids bud).x (askF rs ps top ids bud).hw vp vl (askF rs ps top ids bud).st (askF rs ps top ids bud).c) ∧ AOw w.heap.size (askF rs ps top ids bud).P (askF rs ps top ids bud).L vp vl w' ∧ Below w.heap.size w w' := by
 classical
 obtain ⟨hb, ⟨h2, he⟩ | ⟨h2, h1, he⟩ | ⟨h2, h1, s1, n1, c1, s2, n2, c2, s3, n3, c3, he, ls, so, hy, hn⟩⟩ := h
 ·have ef : askF rs ps top ids bud = ⟨0, 0, 0, 2, [], []⟩ := if_pos h2
  rw [ef]
  exact ⟨_, _, he, ⟨⟨rfl, .inl ⟨rfl, rfl⟩⟩, [], OwC.nil _ _, rfl⟩, hb⟩
 ·have ef : askF rs ps top ids bud = ⟨0, 0, 0, 1, [], []⟩ := by unfold askF; rw [if_neg h2, if_pos h1]
  rw [ef]
  exact ⟨_, _, he, ⟨⟨rfl, .inl ⟨rfl, rfl⟩⟩, [], OwC.nil _ _, rfl⟩, hb⟩
 ·have ef : askF rs ps top ids bud = ⟨(askR rs ps top ids bud).1.1, 2, (askR rs ps top ids bud).1.2.2.2, 0, if (askR rs ps top ids bud).1.1 = 1 then askP rs ps top ids bud else [], (askR rs ps top ids bud).1.2.2.1⟩ := by unfold askF; rw [if_neg h2, if_neg h1]
  rw [ef]
  refine ⟨_, _, he, ⟨?_, ls, so.ol, so.eq⟩, hb⟩
  by_cases hv : (askR rs ps top ids bud).1.1 = 1
  ·simp only [if_pos hv]
   exact hy hv
  ·simp only [if_neg hv]
   obtain ⟨rfl, rfl, rfl⟩ := hn hv
   exact ⟨rfl, .inl ⟨rfl, rfl⟩⟩
theorem askF_small (rs : List LSt) (ps : List LPr) (top : Int) (ids : List Int) (bud : Int) : (askF rs ps top ids bud).P.length ≤ 1048576 ∧ (askF rs ps top ids bud).L.length ≤ 1000 ∧ ∀ l ∈ (askF rs ps top ids bud).L, l.length ≤ 1000 := by
 classical
 unfold askF
 split
 ·exact ⟨by simp, by simp, fun l hl => by cases hl⟩
 ·split
  ·exact ⟨by simp, by simp, fun l hl => by cases hl⟩
  ·have hs := solA_small (cnN rs ps top ids : Nat) (cnA rs ps top ids) bud
   refine ⟨?_, hs.2.1, hs.2.2⟩
   have hq := askR_len rs ps top ids bud
   dsimp only
   split
   ·unfold askP poA
    split
    ·unfold poP; rw [List.length_map]; exact hq
    ·simp
   ·simp
theorem askP_bare {rs rs' : List LSt} (ps : List LPr) (top : Int) (ids : List Int) (bud : Int) (h : bareS rs = bareS rs') : askP rs ps top ids bud = askP rs' ps top ids bud := by
 have hc := chF_bareR top h
 have hp : plF rs top ids = plF rs' top ids := by unfold plF; rw [hc]
 unfold askP
 rw [askR_bare ps top ids bud h]
 unfold poA
 rw [show PoOK rs ps top ids (askR rs' ps top ids bud).1.2.1 = PoOK rs' ps top ids (askR rs' ps top ids bud).1.2.1 by unfold PoOK; rw [idsR_bare ps ids h, hp], hp]
theorem askF_bare {rs rs' : List LSt} (ps : List LPr) (top : Int) (ids : List Int) (bud : Int) (h : bareS rs = bareS rs') : askF rs ps top ids bud = askF rs' ps top ids bud := by
 unfold askF
 rw [idsR_bare ps ids h, askR_bare ps top ids bud h, askP_bare ps top ids bud h]
theorem btw_only {c : Nat} {w w' : World} (h : Only c w w') : Btw c (c + 1) w w' := (Btw.refl c (c + 1) w).only h (Nat.le_refl _) (Nat.lt_succ_self _)
end Go.Proofs.YtnihhbfgbilimaaGreatDoor
