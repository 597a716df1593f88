import Derived.Test.YtnihhbfgbilimaaGreatDoorWag
import Derived.Test.YtnihhbfgbilimaaGreatDoorSa
import Derived.Test.YtnihhbfgbilimaaGreatDoorVac
import Derived.Lib.TrailingZeros
import Derived.RegionTactic
import Derived.ChangeAlike
import Derived.Deep.LoopGhost
import Derived.Deep.RegionWith
import Derived.Deep.RegionLaw
import Derived.Deep.DeepCutAuto
import Derived.Shelf.Spec.TrailingZeros
import Derived.Laws.Rows
import Derived.Laws.Tables
namespace Go.Proofs.YtnihhbfgbilimaaGreatDoor
open Go.RowKit
set_option linter.unusedVariables false
open List (setIfInBounds_toArray set_cons_zero set_cons_succ getElem_toArray getElem_cons_succ getElem_cons_zero)
structure RunI (w : World) (cs : List LCl) (V bud : Nat) (R : Res) (st : Nat) (ms ls : List LCl) (D : List Int) : Prop where
 eq : bareC ms = bareC cs ++ bareC ls
 inn : ∀ r ∈ ms, ClIn w r ∨ r ∈ ls
 ok : SOk (bareC cs) V (bareC ls) D
 few : ls.length ≤ st
 le : st ≤ bud
 run : solF (bareC cs) V (bud - st) st (bareC ls) D = R
 nd : ∀ r ∈ ms, r.2.Nodup ∧ r.2.length ≤ 1000
section
variable {w : World} {cs : List LCl} {V bud : Nat} {R : Res} {st : Nat} {ms ls : List LCl} {D : List Int}
theorem RunI.conf (h : RunI w cs V bud R st ms ls D) : uRun (bareC cs) (bareC ls) D = resF (bareC ms) (97 - D.length) D := by
 unfold uRun
 rw [h.eq]
theorem RunI.len (h : RunI w cs V bud R st ms ls D) : ms.length = cs.length + ls.length := by
 have := congrArg List.length h.eq
 simpa [bareC] using this
theorem RunI.lits (h : RunI w cs V bud R st ms ls D) : ∀ r ∈ ms, ∀ z ∈ r.2, OkZ (V : Int) z := fun r hr z hz => by
 have : r.2 ∈ bareC ms := List.mem_map.2 ⟨r, hr, rfl⟩
 rw [h.eq] at this
 exact h.ok.all _ this z hz
theorem RunI.sp (h : RunI w cs V bud R st ms ls D) : SpTo (V : Int) (resF (bareC ms) (97 - D.length) D).1 (resF (bareC ms) (97 - D.length) D).1.length :=
 resF_sp _ (fun l hl => by rw [h.eq] at hl; exact h.ok.all l hl) _ _ h.ok.ds
theorem RunI.stop (h : RunI w cs V bud R st ms ls D) (e : st = bud) : R = (3, [], bareC ls, (st : Int)) := by
 rw [← h.run]; exact solF_stop (by omega)
theorem RunI.yes (h : RunI w cs V bud R st ms ls D) (e : ¬ st = bud) (h1 : (resF (bareC ms) (97 - D.length) D).2 = -1) (h2 : opn (resF (bareC ms) (97 - D.length) D).1 V 1 = 0) : R = (1, trL (resF (bareC ms) (97 - D.length) D).1 V, bareC ls, (st : Int) + 1) := by
 rw [← h.conf] at h1 h2 ⊢
 have := h.le
 rw [← h.run]; exact solF_yes (by omega) h1 h2
theorem RunI.push (h : RunI w cs V bud R st ms ls D) (e : ¬ st = bud) (h1 : (resF (bareC ms) (97 - D.length) D).2 = -1) (h2 : ¬ opn (resF (bareC ms) (97 - D.length) D).1 V 1 = 0) : RunI w cs V bud R (st + 1) ms ls (D ++ [((opn (resF (bareC ms) (97 - D.length) D).1 V 1 : Nat) : Int)]) := by
 rw [← h.conf] at h1 h2 ⊢
 have hl := h.le
 have hf := h.few
 refine ⟨h.eq, h.inn, h.ok.push h2, by omega, by omega, ?_, h.nd⟩
 rw [← h.run, solF_push (n := bud - st) (by omega) h1 h2, show bud - st - 1 = bud - (st + 1) by omega]
 rfl
theorem RunI.no (h : RunI w cs V bud R st ms ls D) (e : ¬ st = bud) (h1 : ¬ (resF (bareC ms) (97 - D.length) D).2 = -1) (h2 : D.length = 0) : R = (2, [], bareC ls ++ [negL D], (st : Int) + 1) := by
 rw [← h.conf] at h1
 have := h.le
 rw [← h.run]; exact solF_no (by omega) h1 h2
theorem RunI.pop (h : RunI w cs V bud R st ms ls D) (e : ¬ st = bud) (h1 : ¬ (resF (bareC ms) (97 - D.length) D).2 = -1) (h2 : ¬ D.length = 0) (hV : V ≤ 96) (u : Value) : RunI w cs V bud R (st + 1) (ms ++ [(u, negL D)]) (ls ++ [(u, negL D)]) D.dropLast := by
 rw [← h.conf] at h1
 have hl := h.le
 have hf := h.few
 refine ⟨?_, fun r hr => ?_, ?_, by simp; omega, by omega, ?_, fun r hr => ?_⟩
 ·rw [bareC_add, bareC_add, h.eq, List.append_assoc]
 ·rcases List.mem_append.1 hr with g | g
  ·rcases h.inn r g with g | g
   ·exact .inl g
   ·exact .inr (by simp [g])
  ·exact .inr (by simp at g ⊢; exact .inr g)
 ·rw [bareC_add]; exact h.ok.learn
 ·rw [bareC_add, ← h.run, solF_pop (n := bud - st) (by omega) h1 h2, show bud - st - 1 = bud - (st + 1) by omega]
  rfl
 ·rcases List.mem_append.1 hr with g | g
  ·exact h.nd r g
  ·rw [List.mem_singleton.1 g]
   have hd := SpTo.dup h.ok.ds (by omega : (V : Int) ≤ 96)
   exact ⟨negL_dup hd.1, by show (negL D).length ≤ 1000; rw [negL_len]; exact hd.2⟩
end
section
variable {w : World} {b : Nat} {us : Array Value} {v0 v1 v2 v3 v4 : Value}
end
abbrev SOv (x : Int) (vt vl : Value) (st : Int) : Value := .agg #[.int .i64 x, vt, vl, .int .i64 st, .int .i64 0]
def RPost (w W : World) (b V bud : Nat) (R : Res) (e : Ending) (w' : World) : Prop :=
 (∃ (vt vl : Value) (ls : List LCl), e = .returned (SOv R.1 vt vl R.2.2.2) ∧ SoV w.heap.size R vt vl ls w' ∧ Below w.heap.size w w' ∧ K30 W w') ∨
 (∃ (st : Int) (ms ls : List LCl) (D tr : List Int) (vc vl vd : Value), e = .panicked thrown ∧ R = (3, [], bareC ls, st) ∧ Sol w W b V bud st ms ls D tr vc vl vd w')
theorem Sol.rebase {w w0 : World} {b : Nat} {V bud st : Int} {ms ls : List LCl} {D tr : List Int} {vc vl vd : Value} {W : World} (h : Sol w w0 b V bud st ms ls D tr vc vl vd W) : Sol w W b V bud st ms ls D tr vc vl vd W := ⟨h.blk, h.bk, h.ol, h.od, h.da, h.bl, h.hb, K30.refl W⟩
theorem Sol.from {w w0 w1 : World} {b : Nat} {V bud st : Int} {ms ls : List LCl} {D tr : List Int} {vc vl vd : Value} {W : World} (h : Sol w w0 b V bud st ms ls D tr vc vl vd W) (hk : K30 w1 w0) : Sol w w1 b V bud st ms ls D tr vc vl vd W := ⟨h.blk, h.bk, h.ol, h.od, h.da, h.bl, h.hb, hk.trans h.kp⟩
theorem K30.high {w0 W : World} (h : K30 w0 W) {b : Nat} (hb : w0.heap.size ≤ b) (i : Nat) (v : Value) : K30 w0 (W.setCell ⟨b, i, none⟩ v) := fun k us hk =>
 (Below.heap_setCell _ _ _ _ (by have := (Array.getElem?_eq_some_iff.1 hk).1; show k ≠ b; omega)).trans (h k us hk)
theorem rfin {w W W6 : World} {b V bud rb : Nat} {R : Res} {vt vl : Value} {ls : List LCl} (hx : BoxO W6 rb) (hr : W.heap.size ≤ rb) (hw : w.heap.size ≤ rb) (hs : SoV w.heap.size R vt vl ls W6) (hb : Below w.heap.size w W6) (hk : K30 W W6) :
  RPost w W b V bud R (.returned (SOv R.1 vt vl R.2.2.2)) (set5 W6 rb (.int .i64 R.1) vt vl (.int .i64 R.2.2.2) (.int .i64 0)) :=
 .inl ⟨vt, vl, ls, rfl, hs.only (set5_only _ _ _ _ _ _ _) hx, Only.below hb hw (set5_only _ _ _ _ _ _ _), ((((hk.high hr 0 _).high hr 1 _).high hr 2 _).high hr 3 _).high hr 4 _⟩
set_option maxRecDepth 100000 in
set_option maxHeartbeats 8000000 in
theorem run_any {w : World} {b V bud : Nat} {cs : List LCl} {vc : Value} (R : Res) (W : World) (h : Sol w W b V bud 0 cs [] [] [] vc (.slice none 0 0) (.slice none 0 0) W) (hV : V ≤ 96) (hbd : bud ≤ 300) (hcs : cs.length ≤ 4000) (hi : RunI w cs V bud R 0 cs [] []) (hT : TabB w) (hb0 : b ≠ 0) :
  Calls Tryz.prog 171 #[.pointer (some ⟨b, 0, none⟩)] W (RPost w W b V bud R) := by
 have nw := new_at W (.cells #[.int .i64 0, .slice none 0 0, .slice none 0 0, .int .i64 0, .int .i64 0] 107)
 have bb := bA0 W (.cells #[.int .i64 0, .slice none 0 0, .slice none 0 0, .int .i64 0, .int .i64 0] 107)
 have KA : Hid (K30 W (W.alloc (.cells #[.int .i64 0, .slice none 0 0, .slice none 0 0, .int .i64 0, .int .i64 0] 107))) := (K30.refl W).below bb
 have SA := Lib.hid ((h.below bb).rebase)
 have BA : Hid (BoxO (W.alloc (.cells #[.int .i64 0, .slice none 0 0, .slice none 0 0, .int .i64 0, .int .i64 0] 107)) W.heap.size) := nw
 have HI := Lib.hid hi
 have hrb : w.heap.size ≤ W.heap.size := h.bl.size
 clear h nw bb hi
 generalize hrb' : W.heap.size = rb at *
 have KX : Hid (∀ W', K30 (W.alloc (.cells #[.int .i64 0, .slice none 0 0, .slice none 0 0, .int .i64 0, .int .i64 0] 107)) W' → BoxO W' rb) := fun W' hk => hk rb _ BA.out
 have KF : Hid (∀ W', K30 (W.alloc (.cells #[.int .i64 0, .slice none 0 0, .slice none 0 0, .int .i64 0, .int .i64 0] 107)) W' → K30 W W') := fun W' hk => KA.out.trans hk
 have SP : Hid (∀ (st : Nat) ms ls D tr vc vl vd W', ¬ st = bud → RunI w cs V bud R st ms ls D → Sol w (W.alloc (.cells #[.int .i64 0, .slice none 0 0, .slice none 0 0, .int .i64 0, .int .i64 0] 107)) b V bud (st : Int) ms ls D tr vc vl vd W' → Calls Tryz.prog 193 #[.pointer (some ⟨b, 0, none⟩)] W' fun e w' => e = .returned (.tuple #[]) ∧ Sol w (W.alloc (.cells #[.int .i64 0, .slice none 0 0, .slice none 0 0, .int .i64 0, .int .i64 0] 107)) b V bud ((st : Int) + 1) ms ls D tr vc vl vd w') := fun st ms ls D tr vc vl vd W' h1 h2 h3 => spend_some W' h3 (by omega) (by omega) (by have := h2.le; omega)
 have SN : Hid (∀ (st : Nat) ms ls D tr vc vl vd W', st = bud → Sol w (W.alloc (.cells #[.int .i64 0, .slice none 0 0, .slice none 0 0, .int .i64 0, .int .i64 0] 107)) b V bud (st : Int) ms ls D tr vc vl vd W' → Calls Tryz.prog 193 #[.pointer (some ⟨b, 0, none⟩)] W' fun e w' => e = .panicked thrown ∧ Sol w (W.alloc (.cells #[.int .i64 0, .slice none 0 0, .slice none 0 0, .int .i64 0, .int .i64 0] 107)) b V bud (st : Int) ms ls D tr vc vl vd w') := fun st ms ls D tr vc vl vd W' h1 h3 => spend_none W' h3 (by omega)
 have CO : Hid (∀ (st : Nat) (x : Int) ms ls D tr vc vl vd W', RunI w cs V bud R st ms ls D → Sol w (W.alloc (.cells #[.int .i64 0, .slice none 0 0, .slice none 0 0, .int .i64 0, .int .i64 0] 107)) b V bud x ms ls D tr vc vl vd W' → Calls Tryz.prog 194 #[.pointer (some ⟨b, 0, none⟩)] W' fun e w' => e = .returned (.bool (!((resF (bareC ms) (97 - D.length) D).2 == -1))) ∧ Sol w (W.alloc (.cells #[.int .i64 0, .slice none 0 0, .slice none 0 0, .int .i64 0, .int .i64 0] 107)) b V bud x ms ls D (resF (bareC ms) (97 - D.length) D).1 vc vl vd w') := fun st x ms ls D tr vc vl vd W' h2 h3 => conf_any W' h3 h2.inn hV h2.ok.ds (fun r hr => ⟨h2.lits r hr, h2.nd r hr⟩) (by have := h2.len; have := h2.few; have := h2.le; omega) hT hb0
 have LE : Hid (∀ (st : Nat) (x : Int) ms ls D tr vc vl vd W', RunI w cs V bud R st ms ls D → Sol w (W.alloc (.cells #[.int .i64 0, .slice none 0 0, .slice none 0 0, .int .i64 0, .int .i64 0] 107)) b V bud x ms ls D tr vc vl vd W' → Calls Tryz.prog 195 #[.pointer (some ⟨b, 0, none⟩)] W' fun e w' => e = .returned (.tuple #[]) ∧ ∃ (u vc' vl' : Value), Sol w (W.alloc (.cells #[.int .i64 0, .slice none 0 0, .slice none 0 0, .int .i64 0, .int .i64 0] 107)) b V bud x (ms ++ [(u, negL D)]) (ls ++ [(u, negL D)]) D tr vc' vl' vd w') := fun st x ms ls D tr vc vl vd W' h2 h3 => learn_any W' h3 (h2.ok.short hV) (SpTo.dup h2.ok.ds (by omega)).1 (fun z hz => by have := sp_ok h2.ok.ds z hz; have := this.2.1; have := (sp_ok h2.ok.ds z hz).2.2; omega) (by have := h2.few; have := h2.le; omega) (by have := h2.len; have := h2.few; have := h2.le; omega)
 have FO : Hid (∀ (st : Nat) (x : Int) ms ls D vc vl vd W', RunI w cs V bud R st ms ls D → Sol w (W.alloc (.cells #[.int .i64 0, .slice none 0 0, .slice none 0 0, .int .i64 0, .int .i64 0] 107)) b V bud x ms ls D (resF (bareC ms) (97 - D.length) D).1 vc vl vd W' → Calls Tryz.prog 197 #[.pointer (some ⟨b, 6, none⟩), .int .i64 (V : Int)] W' fun e w' => e = .returned (.int .i64 (opn (resF (bareC ms) (97 - D.length) D).1 V 1 : Nat)) ∧ w' = W') := fun st x ms ls D vc vl vd W' h2 h3 => fo_any b V _ W' h3.blk (SpTo.consA h2.sp) hV
 have TV : Hid (∀ (st : Nat) (x : Int) ms ls D vc vl vd W' W'', RunI w cs V bud R st ms ls D → Sol w (W.alloc (.cells #[.int .i64 0, .slice none 0 0, .slice none 0 0, .int .i64 0, .int .i64 0] 107)) b V bud x ms ls D (resF (bareC ms) (97 - D.length) D).1 vc vl vd W' → Below W'.heap.size W' W'' → Calls Tryz.prog 198 #[.pointer (some ⟨b, 6, none⟩), .int .i64 (V : Int)] W'' fun e w' => ∃ v, e = .returned v ∧ w'.ownsRow W''.heap.size 2 1 v (trL (resF (bareC ms) (97 - D.length) D).1 V).length (valsZ (trL (resF (bareC ms) (97 - D.length) D).1 V)) ∧ Below W''.heap.size W'' w') := fun st x ms ls D vc vl vd W' W'' h2 h3 h4 => tv_any b V _ W'' (h3.blk.below h4) (SpTo.consA h2.sp) hV
 have SFX : Hid (∀ (x : Int) ms ls D tr vc vl vd W', Sol w (W.alloc (.cells #[.int .i64 0, .slice none 0 0, .slice none 0 0, .int .i64 0, .int .i64 0] 107)) b V bud x ms ls D tr vc vl vd W' → b < W'.heap.size ∧ W'.cell? ⟨b, 0, none⟩ = some (.int .i64 (V : Int))) := fun x ms ls D tr vc vl vd W' h => ⟨h.facts.1, h.facts.2.1⟩
 clear hcs hbd hT
 go_enter Tryz.func171, Tryz.ntmps171
 go_wp2
 go_loopg [3] (bud + 1) (fun g o wr => ∃ (st : Nat) (ms ls : List LCl) (D tr : List Int) (vc vl vd : Value), st + g = bud + 1 ∧ Hid (Sol w (W.alloc (.cells #[.int .i64 0, .slice none 0 0, .slice none 0 0, .int .i64 0, .int .i64 0] 107)) b V bud (st : Int) ms ls D tr vc vl vd wr) ∧ Hid (RunI w cs V bud R st ms ls D))
 case atStart => exact ⟨0, cs, [], [], [], vc, _, _, by omega, SA, HI⟩
 case round =>
  obtain ⟨st, ms, ls, D, tr, vc1, vl1, vd1, hg, H1, H2⟩ := hrel
  have hle := H2.out.le
  by_cases hst : st = bud
  ·have C := Lib.hid (SN.out st ms ls D tr vc1 vl1 vd1 wr hst H1.out)
   have E := Lib.hid (H2.out.stop hst)
   clear SP SN CO LE FO TV SFX
   go_wp2_with fail
   refine C.out.mono ?_
   rintro e w1 ⟨rfl, S1⟩
   have P := Lib.hid (S1.from KA.out)
   clear S1
   go_wp2
   exact ⟨rfl, .inr ⟨_, _, _, _, _, _, _, _, rfl, E.out, P.out⟩⟩
  have C := Lib.hid (SP.out st ms ls D tr vc1 vl1 vd1 wr hst H2.out H1.out)
  go_wp2_with fail
  refine C.out.mono ?_
  rintro e w1 ⟨rfl, S1⟩
  have C2 := Lib.hid (CO.out st _ ms ls D tr vc1 vl1 vd1 w1 H2.out S1)
  clear S1 C SP SN H1
  by_cases hcf : (resF (bareC ms) (97 - D.length) D).2 = -1
  ·rw [hcf] at C2
   go_wp2_with fail
   refine C2.out.mono ?_
   rintro e w2 ⟨rfl, S2⟩
   have S2d := S2.below (below_drew' w2)
   have C3 := Lib.hid (FO.out st _ ms ls D vc1 vl1 vd1 w2.drew H2.out S2d)
   obtain ⟨l2, q0⟩ := SFX.out _ _ _ _ _ _ _ _ _ S2
   have HS2 := Lib.hid S2d
   clear C2 S2 S2d
   by_cases ho : opn (resF (bareC ms) (97 - D.length) D).1 V 1 = 0
   ·have E := Lib.hid (H2.out.yes hst hcf ho)
    rw [ho] at C3
    go_wp2
    go_region_with (go_at_call 197; refine C3.out.mono ?_; rintro e w3 ⟨rfl, rfl⟩)
    obtain ⟨lv, lk, ev⟩ := HS2.out.ol.v
    subst ev
    have C4 := Lib.hid (told_any 1 w2.drew HS2.out)
    go_wp2_with (go_at_call 170; refine C4.out.mono ?_; rintro e w4 ⟨rfl, b4⟩)
    have B4 := Lib.hid (bA b4 (.cells #[.int .i64 1, .slice none 0 0, .slice lv ls.length lk, .int .i64 ((st : Int) + 1), .int .i64 0] 107))
    have N4 := Lib.hid (new_at w4 (.cells #[.int .i64 1, .slice none 0 0, .slice lv ls.length lk, .int .i64 ((st : Int) + 1), .int .i64 0] 107))
    have hz4 : (w4.alloc (.cells #[.int .i64 1, .slice none 0 0, .slice lv ls.length lk, .int .i64 ((st : Int) + 1), .int .i64 0] 107)).heap.size = w4.heap.size + 1 := by simp
    have hz2 := b4.size
    have S4 := Lib.hid (HS2.out.below B4.out)
    have q4 := (SFX.out _ _ _ _ _ _ _ _ _ S4.out).2
    have l4 := (SFX.out _ _ _ _ _ _ _ _ _ S4.out).1
    clear b4 C4 C3
    generalize hN4 : w4.alloc (.cells #[.int .i64 1, .slice none 0 0, .slice lv ls.length lk, .int .i64 ((st : Int) + 1), .int .i64 0] 107) = n4 at *
    clear hN4
    have C5 := Lib.hid (TV.out st _ ms ls D _ _ _ w2.drew n4.drew H2.out HS2.out B4.out.drew)
    have M5 : Hid (∀ w5 : World, Below n4.heap.size n4 w5 → w4.heap.size < w5.heap.size ∧ w5.cell? ⟨w4.heap.size, 1, none⟩ = some (.slice none 0 0) ∧ w5.frozen? ⟨w4.heap.size, 1, none⟩ = false ∧ w5.heap[w4.heap.size]? = some (.cells #[.int .i64 1, .slice none 0 0, .slice lv ls.length lk, .int .i64 ((st : Int) + 1), .int .i64 0] 107)) := fun w5 hb => by
     have hh := (hb.block w4.heap.size (by omega)).trans N4.out
     exact ⟨(Array.getElem?_eq_some_iff.1 hh).1, (cells5 hh).2.1, by simp [World.frozen?, hh], hh⟩
    go_wp2
    go_region_with (go_at_call 198; refine C5.out.mono ?_; rintro e w5 ⟨v5, rfl, o5, b5⟩; obtain ⟨s5, k5, rfl⟩ := own_v o5; have hb5 := (below_drew' n4).trans b5; obtain ⟨z1, z2, z3, z4⟩ := M5.out w5 hb5; have Z4 := Lib.hid z4; have O5 := Lib.hid o5; have B5 := Lib.hid hb5; clear z4 o5 b5 hb5)
    all_goals
     have e := E.out
     subst e
     have K5 := S4.out.kp.below B5.out
     have X5 := KX.out _ K5
     have hr4 := (KX.out _ HS2.out.kp).facts.1
     have hr4' : rb < w4.heap.size := by have : w2.drew.heap.size = w2.heap.size := rfl; omega
     have ne4 : rb ≠ w4.heap.size := by omega
     have O6 : (w5.setCell ⟨w4.heap.size, 1, none⟩ (.slice s5 (trL (resF (bareC ms) (97 - D.length) D).1 V).length k5)).heap[w4.heap.size]? = some (.cells #[.int .i64 1, .slice s5 (trL (resF (bareC ms) (97 - D.length) D).1 V).length k5, .slice lv ls.length lk, .int .i64 ((st : Int) + 1), .int .i64 0] 107) := heap_setCell_same w5 w4.heap.size 1 _ 107 _ Z4.out
     have X6 : BoxO (w5.setCell ⟨w4.heap.size, 1, none⟩ (.slice s5 (trL (resF (bareC ms) (97 - D.length) D).1 V).length k5)) rb := (Below.heap_setCell _ _ _ _ ne4).trans X5
     have KW6 := (KF.out _ K5).high (b := w4.heap.size) (by omega) 1 (.slice s5 (trL (resF (bareC ms) (97 - D.length) D).1 V).length k5)
     have S5 := S4.out.below B5.out
     have V6 : SoV w.heap.size (1, trL (resF (bareC ms) (97 - D.length) D).1 V, bareC ls, (st : Int) + 1) (.slice s5 (trL (resF (bareC ms) (97 - D.length) D).1 V).length k5) (.slice lv ls.length lk) ls (w5.setCell ⟨w4.heap.size, 1, none⟩ (.slice s5 (trL (resF (bareC ms) (97 - D.length) D).1 V).length k5)) := by
      have hn : n4.drew.heap.size = n4.heap.size := rfl
      refine ⟨own_box (own_mono O5.out (by omega)) Z4.out (by decide) 1 _, owc_box S5.ol Z4.out (by decide) (by decide) 1 _, rfl, fun r hr j hj e => ?_⟩
      have h1 := ((S4.out.ol.each r hr).lt j hj).2
      have h2 := (O5.out.lt j e).1
      omega
     have F := Lib.hid (rfin (b := b) (V := V) (bud := bud) X6 (Nat.le_of_eq hrb') hrb V6 (S5.bl.setCell (p := ⟨w4.heap.size, 1, none⟩) (by show w.heap.size ≤ w4.heap.size; omega) _) KW6)
     have A6 := set5_at (v0 := .int .i64 1) (v1 := .slice s5 (trL (resF (bareC ms) (97 - D.length) D).1 V).length k5) (v2 := .slice lv ls.length lk) (v3 := .int .i64 ((st : Int) + 1)) (v4 := .int .i64 0) X6
     obtain ⟨r0, r1, r2, r3, r4⟩ := cells5 A6
     obtain ⟨i0, i1, i2, i3, i4⟩ := cells5 O6
     obtain ⟨bl6, c0, c1, c2, c3, c4, f0, f1, f2, f3, f4⟩ := X6.facts
     have l6 : w4.heap.size < (w5.setCell ⟨w4.heap.size, 1, none⟩ (.slice s5 (trL (resF (bareC ms) (97 - D.length) D).1 V).length k5)).heap.size := (Array.getElem?_eq_some_iff.1 O6).1
     dsimp only at F
     unfold set5 at F r0 r1 r2 r3 r4
     clear A6 O6 X6 V6 KW6 S5 X5 K5 M5 TV FO SFX LE CO KX KF KA E HS2 S4 N4 B4 C5 O5 B5 Z4 H2 ho hcf
     generalize (trL (resF (bareC ms) (97 - D.length) D).1 V).length = tn at *
     generalize ls.length = ln at *
     generalize w5.setCell ⟨w4.heap.size, 1, none⟩ (.slice s5 tn k5) = w6 at *
     go_wp2
     exact bodyPost_ret (v := SOv 1 (.slice s5 tn k5) (.slice lv ln lk) ((st : Int) + 1)) (by simp [results, Tryz.results171, go_sem, r0, r1, r2, r3, r4]) rfl F.out
   ·have RI := Lib.hid (H2.out.push hst hcf ho)
    have ho' : (((opn (resF (bareC ms) (97 - D.length) D).1 V 1 : Nat) : Int) == 0) = false := by simpa using ho
    have C4 := Lib.hid (push_any ((opn (resF (bareC ms) (97 - D.length) D).1 V 1 : Nat) : Int) w2.drew HS2.out (by have := H2.out.ok.short hV; omega))
    generalize opn (resF (bareC ms) (97 - D.length) D).1 V 1 = z at *
    clear FO TV CO LE
    go_wp2
    go_region_with (go_at_call 197; refine C3.out.mono ?_; rintro e w3 ⟨rfl, rfl⟩)
    go_wp2_with (go_at_call 199; refine C4.out.mono ?_; rintro e w4 ⟨rfl, vd', S4⟩)
    go_wp2
    go_roundg (gk - 1)
    case measure => omega
    case rel => exact ⟨st + 1, ms, ls, _, _, _, _, vd', by omega, S4, RI⟩
  ·have hcf' : ((resF (bareC ms) (97 - D.length) D).2 == -1) = false := by simpa using hcf
   rw [hcf'] at C2
   go_wp2_with fail
   refine C2.out.mono ?_
   rintro e w2 ⟨rfl, S2⟩
   have C3 := Lib.hid (LE.out st _ ms ls D _ vc1 vl1 vd1 w2 H2.out S2)
   clear C2 S2 CO FO TV
   go_wp2_with fail
   refine C3.out.mono ?_
   rintro e w3 ⟨rfl, u, vc', vl', S3⟩
   have HS3 := Lib.hid S3
   have l3 := (SFX.out _ _ _ _ _ _ _ _ _ S3).1
   clear C3 S3
   by_cases hD : D.length = 0
   ·have E := Lib.hid (H2.out.no hst hcf hD)
    have C4 := Lib.hid (pop_none w3 HS3.out hD)
    obtain ⟨lv, lk, ev⟩ := HS3.out.ol.v
    subst ev
    have C5 := Lib.hid (told_any 2 w3 HS3.out)
    go_wp2_with (go_at_call 196; refine C4.out.mono ?_; rintro e w4 ⟨rfl, rfl⟩)
    refine C5.out.mono ?_
    rintro e w5 ⟨rfl, b5⟩
    have S5 := HS3.out.below b5
    have X6 := KX.out _ S5.kp
    have e := E.out
    subst e
    have V6 : SoV w.heap.size (2, [], bareC ls ++ [negL D], (st : Int) + 1) (.slice none 0 0) (.slice lv (ls ++ [(u, negL D)]).length lk) (ls ++ [(u, negL D)]) w5 := ⟨⟨rfl, .inl ⟨rfl, rfl⟩⟩, S5.ol, by rw [bareC_add]; rfl, fun r hr j hj e => by cases e⟩
    have F := Lib.hid (rfin (b := b) (V := V) (bud := bud) X6 (Nat.le_of_eq hrb') hrb V6 S5.bl (KF.out _ S5.kp))
    have A6 := set5_at (v0 := .int .i64 2) (v1 := .slice none 0 0) (v2 := .slice lv (ls ++ [(u, negL D)]).length lk) (v3 := .int .i64 ((st : Int) + 1)) (v4 := .int .i64 0) X6
    obtain ⟨r0, r1, r2, r3, r4⟩ := cells5 A6
    obtain ⟨bl6, c0, c1, c2, c3, c4, f0, f1, f2, f3, f4⟩ := X6.facts
    dsimp only at F
    unfold set5 at F r0 r1 r2 r3 r4
    clear A6 X6 V6 S5 SFX LE KX KF KA E HS3 C4 C5 H2 hcf b5 l3
    generalize (ls ++ [(u, negL D)]).length = ln at *
    go_wp2
    exact bodyPost_ret (v := SOv 2 (.slice none 0 0) (.slice lv ln lk) ((st : Int) + 1)) (by simp [results, Tryz.results171, go_sem, r0, r1, r2, r3, r4]) rfl F.out
   ·have RI := Lib.hid (H2.out.pop hst hcf hD hV u)
    have C4 := Lib.hid (pop_some w3 HS3.out hD (by have := H2.out.ok.short hV; omega))
    go_wp2_with (go_at_call 196; refine C4.out.mono ?_; rintro e w4 ⟨rfl, vd', S4⟩)
    go_wp2
    go_roundg (gk - 1)
    case measure => omega
    case rel => exact ⟨st + 1, _, _, _, _, _, _, vd', by omega, S4, RI⟩
set_option linter.unusedSimpArgs false
theorem Only.setRow {g : Nat} (X : World) (cells : Array Value) : Only g X (X.setRow g cells) := ⟨rfl, rfl, rfl, by simp, fun k _ hk => setRow_other _ _ _ _ hk⟩
set_option maxRecDepth 100000 in
set_option maxHeartbeats 1000000 in
theorem catch_p {w w0 : World} {b ob : Nat} {V bud st : Int} {ms ls : List LCl} {D tr : List Int} {vc vl vd : Value} (W : World) (h : Sol w w0 b V bud st ms ls D tr vc vl vd W) (hx : BoxO W ob) :
  CallsD Tryz.prog 169 #[.pointer (some ⟨b, 0, none⟩), .pointer (some ⟨ob, 0, none⟩)] (.panicking thrown) W fun e u' w' => e = .returned (.tuple #[]) ∧ settle u' = .returning ∧ ∃ w1, Below W.heap.size W w1 ∧ w' = set5 w1 ob (.int .i64 3) (.slice none 0 0) vl (.int .i64 st) (.int .i64 0) := by
 have C := Lib.hid (told_any 3 W h)
 obtain ⟨lv, lk, rfl⟩ := h.ol.v
 have HX := Lib.hid (fun w1 hb => hx.below (w' := w1) hb)
 clear h hx
 refine callsD_of_wpS Tryz.func169 rfl fun c₀ cs hu => ?_
 apply wpS_seq
 apply wpS_region
 simp [wpOpsS, go_sem, recoverD, hu, Tryz.ntmps169, Exit.thenS, thrown]
 refine wpS_cond (t := true) (by simp [Act.eval, Array.replicate]) ?_
 simp only [if_true]
 refine wpS_of_wp ?_
 go_wp2_with fail
 refine C.out.mono ?_
 rintro e w1 ⟨rfl, b1⟩
 obtain ⟨bl6, c0, c1, c2, c3, c4, f0, f1, f2, f3, f4⟩ := (HX.out w1 b1).facts
 have B1 := Lib.hid b1
 clear b1
 go_wp2
 exact ⟨rfl, _, rfl, .tuple #[], by simp [results, Tryz.results169, go_sem], rfl, by simp [settle], w1, B1.out, rfl⟩
set_option maxRecDepth 100000 in
set_option maxHeartbeats 1000000 in
theorem catch_i (p q : Value) (W : World) :
  CallsD Tryz.prog 169 #[p, q] .returning W fun e u' w' => e = .returned (.tuple #[]) ∧ settle u' = .returning ∧ w' = W := by
 refine callsD_of_wpS Tryz.func169 rfl fun c₀ cs hu => ?_
 apply wpS_seq
 apply wpS_region
 simp [wpOpsS, go_sem, recoverD, hu, Tryz.ntmps169, Exit.thenS]
 refine wpS_cond (t := false) (by simp [Act.eval, Array.replicate]) ?_
 simp only [Bool.false_eq_true, if_false]
 refine wpS_of_wp (wp_skip ?_)
 cases c₀
 simp_all [bodyPostS, results, Tryz.results169, settle]
theorem leaves_eq {P : Program} {fn : Func} {R : Ending → World → Prop} {t1 t2 : Array Value} (h : results fn t1 = results fn t2) : ∀ ds : List Deferred, Leaves P fn t1 R ds = Leaves P fn t2 R ds
 | [] => by funext u w; cases u <;> simp [Leaves, h]
 | d :: ds => by
  have ih := leaves_eq (P := P) (R := R) h ds
  funext u w
  simp only [Leaves, ih]
theorem pan8 {R : Ending → World → Prop} {ch : List PanicEntry} {a : Act} {w : World} (d : Nat) (v : Value) (hd : d ≠ 4) (h : bodyPostD Tryz.prog Tryz.f139 R (.panic ch) (a.put (some d) v) w) : bodyPostD Tryz.prog Tryz.f139 R (.panic ch) a w := by
 have e : results Tryz.f139 (a.put (some d) v).tmps = results Tryz.f139 a.tmps := by
  have e4 : (a.tmps.setIfInBounds d v)[4]?.getD undef = a.tmps[4]?.getD undef := by rw [Array.getElem?_setIfInBounds_ne hd]
  simp [results, Tryz.results139, Act.put, e4]
 have h' : Leaves Tryz.prog Tryz.f139 (a.put (some d) v).tmps R a.defers (.panicking ch) w := h
 rw [leaves_eq e] at h'
 exact h'
theorem Bk.mono {B B' bb : Nat} {vc : Value} {hs : List Value} {ms : List LCl} {rows : Nat → List Nat} {W : World} (h : Bk B bb vc hs ms rows W) (hB : B' ≤ B) : Bk B' bb vc hs ms rows W :=
 ⟨Nat.le_trans hB h.hb, h.blk, h.len, own_mono h.rc hB, fun i hi => own_mono (h.row i hi) hB, h.diff⟩
theorem solNew {w X : World} {g V bd bb : Nat} {cs : List LCl} {old : Array Value} {vr : Value} {hs : List Value} (hg : X.heap[g]? = some (.cells old 212)) (hrc : Bk w.heap.size bb vr hs cs (occI (bareC cs)) X) (hb : Below w.heap.size w X) (hwg : w.heap.size ≤ g) :
  Sol w (X.setRow g (SF (V : Int) (bd : Int) 0 (.pointer (some ⟨bb, 0, none⟩)) (.slice none 0 0) (.slice none 0 0) ++ List.replicate 97 (Value.int .i64 0)).toArray) g V bd 0 cs [] [] [] (.pointer (some ⟨bb, 0, none⟩)) (.slice none 0 0) (.slice none 0 0) (X.setRow g (SF (V : Int) (bd : Int) 0 (.pointer (some ⟨bb, 0, none⟩)) (.slice none 0 0) (.slice none 0 0) ++ List.replicate 97 (Value.int .i64 0)).toArray) :=
 ⟨⟨rfl, by rw [vL_nil]; exact setRow_heap _ _ _ _ _ _ hg⟩, ⟨bb, vr, hs, rfl, hrc.only (Only.setRow _ _) hg (by decide)⟩, OwC.nil _ _, ⟨rfl, .inl ⟨rfl, rfl⟩⟩, (fun r hr => by cases hr), below_setRow hb hwg _, hwg, K30.refl _⟩
theorem budget_any (bud : Int) (W : World) : Calls Tryz.prog 76 #[.int .i64 bud] W fun e w' => e = .returned (.bool (B (0 ≤ bud ∧ bud ≤ 300))) ∧ w' = W := by
 by_cases h0 : 0 ≤ bud
 ·by_cases h1 : bud ≤ 300
  ·rw [B_yes ⟨h0, h1⟩]
   go_enter Tryz.func76, Tryz.ntmps76
   go_wp2
   go_ret
   exact ⟨rfl, rfl⟩
  ·rw [B_no (fun g : 0 ≤ bud ∧ bud ≤ 300 => h1 g.2)]
   go_enter Tryz.func76, Tryz.ntmps76
   go_wp2
   go_ret
   exact ⟨rfl, rfl⟩
 ·rw [B_no (fun g : 0 ≤ bud ∧ bud ≤ 300 => h0 g.1)]
  go_enter Tryz.func76, Tryz.ntmps76
  go_wp2
  go_ret
  exact ⟨rfl, rfl⟩
set_option maxRecDepth 100000 in
set_option maxHeartbeats 8000000 in
theorem iso_any (vars bud : Int) (sl : Option Addr) (cap : Nat) (cs : List LCl) (w : World) (hn : cs.length ≤ maxLen) (hz : Cls w sl cs) (hwf : ∀ l ∈ bareC cs, ∀ z ∈ l, wfI z) (hT : TabB w) :
  Calls Tryz.prog 139 #[CV vars sl cs.length cap, .int .i64 bud] w (SPost w (solA vars (bareC cs) bud)) := by
 have b0 := bA0 w (.cells #[.int .i64 vars, .slice sl cs.length cap] 110)
 have b1 := bA b0 (.cells #[.int .i64 0, .slice none 0 0, .slice none 0 0, .int .i64 0, .int .i64 0] 107)
 have hs1 : ((w.alloc (.cells #[.int .i64 vars, .slice sl cs.length cap] 110)).alloc (.cells #[.int .i64 0, .slice none 0 0, .slice none 0 0, .int .i64 0, .int .i64 0] 107)).heap.size = w.heap.size + 2 := by simp
 have X1 : Hid (BoxO ((w.alloc (.cells #[.int .i64 vars, .slice sl cs.length cap] 110)).alloc (.cells #[.int .i64 0, .slice none 0 0, .slice none 0 0, .int .i64 0, .int .i64 0] 107)) (w.heap.size + 1)) := by
  have := new_at (w.alloc (.cells #[.int .i64 vars, .slice sl cs.length cap] 110)) (.cells #[.int .i64 0, .slice none 0 0, .slice none 0 0, .int .i64 0, .int .i64 0] 107)
  rw [show (w.alloc (.cells #[.int .i64 vars, .slice sl cs.length cap] 110)).heap.size = w.heap.size + 1 by simp] at this
  exact this
 have CA := (CnfAt.new w vars sl cs.length cap).below (bA0 _ (.cells #[.int .i64 0, .slice none 0 0, .slice none 0 0, .int .i64 0, .int .i64 0] 107))
 obtain ⟨q0, q1⟩ := CA.cells
 have ql := CA.lt
 have CA' := Lib.hid CA
 have CA' := Lib.hid CA
 have CA' := Lib.hid CA
 have CR := Lib.hid (icr_any vars sl cap cs ((w.alloc (.cells #[.int .i64 vars, .slice sl cs.length cap] 110)).alloc (.cells #[.int .i64 0, .slice none 0 0, .slice none 0 0, .int .i64 0, .int .i64 0] 107)) hn (hz.below b1))
 have hmf : ∀ (fn : Fn) (first cap : Array Value) (w : World), (Instr.makeFunc fn first cap).run Tryz.prog w = .ok (.func fn first cap) w := fun _ _ _ _ => rfl
 have B1 := Lib.hid b1
 by_cases hok : SolOk vars (bareC cs) bud
 case neg =>
  rw [solA_no hok]
  clear CA hz hwf hn b0 b1 hT
  by_cases hcr : CnfR vars (bareC cs)
  ·rw [B_yes hcr] at CR
   have BR := Lib.hid (show ∀ W, Calls Tryz.prog 76 #[.int .i64 bud] W fun e w' => e = .returned (.bool false) ∧ W = w' from fun W => by
    have := budget_any bud W
    rw [B_no (fun g : 0 ≤ bud ∧ bud ≤ 300 => hok ⟨hcr, g⟩)] at this
    exact this.mono (fun e w' h => ⟨h.1, h.2.symm⟩))
   clear hcr hok
   generalize cs.length = cn at *
   go_enter_defers Tryz.func139, Tryz.ntmps139
   go_wp2_with (first | (go_at_call 76; refine (BR.out _).mono ?_; rintro e w9 ⟨rfl, rfl⟩) | (go_at_call 167; refine CR.out.mono ?_; rintro e w1 ⟨rfl, bb1⟩; have X := X1.out.below bb1; obtain ⟨bl6, c0, c1, c2, c3, c4, f0, f1, f2, f3, f4⟩ := X.facts; have XX := Lib.hid X; have BB := Lib.hid (bT B1.out bb1); clear X bb1))
   have X6 := XX.out
   have V6 : SoV w.heap.size (0, [], [], 0) (.slice none 0 0) (.slice none 0 0) [] w1 := ⟨⟨rfl, .inl ⟨rfl, rfl⟩⟩, OwC.nil _ _, rfl, fun r hr j hj e => by cases e⟩
   have A6 := set5_at (v0 := .int .i64 0) (v1 := .slice none 0 0) (v2 := .slice none 0 0) (v3 := .int .i64 0) (v4 := .int .i64 1) X6
   obtain ⟨r0, r1, r2, r3, r4⟩ := cells5 A6
   exact ⟨.agg #[.int .i64 0, .slice none 0 0, .slice none 0 0, .int .i64 0, .int .i64 1], by unfold set5 at r0 r1 r2 r3 r4; simp [results, Tryz.results139, go_sem, r0, r1, r2, r3, r4], _, _, [], rfl, V6.only (set5_only _ _ _ _ _ _ _) X6, Only.below BB.out (by omega) (set5_only _ _ _ _ _ _ _)⟩
  ·rw [B_no hcr] at CR
   clear hcr hok
   generalize cs.length = cn at *
   go_enter_defers Tryz.func139, Tryz.ntmps139
   go_wp2_with (go_at_call 167; refine CR.out.mono ?_; rintro e w1 ⟨rfl, bb1⟩; have X := X1.out.below bb1; obtain ⟨bl6, c0, c1, c2, c3, c4, f0, f1, f2, f3, f4⟩ := X.facts; have XX := Lib.hid X; have BB := Lib.hid (bT B1.out bb1); clear X bb1)
   have X6 := XX.out
   have V6 : SoV w.heap.size (0, [], [], 0) (.slice none 0 0) (.slice none 0 0) [] w1 := ⟨⟨rfl, .inl ⟨rfl, rfl⟩⟩, OwC.nil _ _, rfl, fun r hr j hj e => by cases e⟩
   have A6 := set5_at (v0 := .int .i64 0) (v1 := .slice none 0 0) (v2 := .slice none 0 0) (v3 := .int .i64 0) (v4 := .int .i64 1) X6
   obtain ⟨r0, r1, r2, r3, r4⟩ := cells5 A6
   exact ⟨.agg #[.int .i64 0, .slice none 0 0, .slice none 0 0, .int .i64 0, .int .i64 1], by unfold set5 at r0 r1 r2 r3 r4; simp [results, Tryz.results139, go_sem, r0, r1, r2, r3, r4], _, _, [], rfl, V6.only (set5_only _ _ _ _ _ _ _) X6, Only.below BB.out (by omega) (set5_only _ _ _ _ _ _ _)⟩
 rw [solA_yes hok]
 obtain ⟨hcr, hb0, hb3⟩ := hok
 rw [B_yes hcr] at CR
 obtain ⟨V, rfl⟩ : ∃ V : Nat, vars = (V : Int) := ⟨vars.toNat, by have := hcr.1.1; omega⟩
 obtain ⟨bd, rfl⟩ : ∃ n : Nat, bud = (n : Int) := ⟨bud.toNat, by omega⟩
 have hV : V ≤ 96 := by have := hcr.1.2; omega
 have hcl : cs.length ≤ 4000 := by have := hcr.2.1; rwa [bareC_length] at this
 simp only [Int.toNat_natCast]
 have HI : Hid (RunI w cs V bd (solF (bareC cs) V bd 0 [] []) 0 cs [] []) := ⟨by simp [bareC], fun r hr => .inl (hz.each r hr), ⟨cnfR_lits hcr hwf, (fun l hl => by cases hl), SpTo.zero _ _⟩, Nat.le_refl _, Nat.zero_le _, rfl, fun r hr => cnfR_dup hcr r.2 (List.mem_map.2 ⟨r, hr, rfl⟩)⟩
 have hb0' : ¬ ((bd : Int) < 0) := by omega
 have hb3' : ¬ (300 < (bd : Int)) := by omega
 have hb3n : bd ≤ 300 := by omega
 have CW : Hid (∀ W, Below w.heap.size w W → Calls Tryz.prog 168 #[CV (V : Int) sl cs.length cap, .slice none 0 0] W fun e w' => e = .returned (.pointer (some ⟨W.heap.size + 1, 0, none⟩)) ∧ (∃ (vr : Value) (hs : List Value), Bk w.heap.size (W.heap.size + 1) vr hs cs (occI (bareC cs)) w') ∧ Below W.heap.size W w') := fun W hW => by
  have := bookOf_any (V : Int) sl cap cs none 0 [] W (by omega) (by simp) (hz.below hW) ⟨.inl rfl, fun r hr => by cases hr⟩ (fun r hr => by
   rw [List.append_nil] at hr
   have hm : r.2 ∈ bareC cs := List.mem_map.2 ⟨r, hr, rfl⟩
   have h1 := cnfR_lits hcr hwf r.2 hm
   have h2 := cnfR_dup hcr r.2 hm
   exact ⟨fun z hz' => by have := h1 z hz'; unfold OkZ at this; omega, h2⟩)
  simp only [List.append_nil, List.length_nil] at this
  refine this.mono ?_
  rintro e w' ⟨rfl, ⟨vr, hs, k⟩, b⟩
  exact ⟨rfl, ⟨vr, hs, k.mono hW.size⟩, b⟩
 have BR := Lib.hid (show ∀ W, Calls Tryz.prog 76 #[.int .i64 (bd : Int)] W fun e w' => e = .returned (.bool true) ∧ W = w' from fun W => by
  have := budget_any (bd : Int) W
  rw [B_yes (⟨hb0, hb3⟩ : 0 ≤ (bd : Int) ∧ (bd : Int) ≤ 300)] at this
  exact this.mono (fun e w' h => ⟨h.1, h.2.symm⟩))
 have RU : Hid (∀ W b vc, b ≠ 0 → Sol w W b V bd 0 cs [] [] [] vc (.slice none 0 0) (.slice none 0 0) W → Calls Tryz.prog 171 #[.pointer (some ⟨b, 0, none⟩)] W (RPost w W b V bd (solF (bareC cs) V bd 0 [] []))) := fun W b vc h0 h => run_any _ W h hV hb3n hcl HI.out hT h0
 clear hcr hwf hn hz b0 b1 CA hT
 generalize hR : solF (bareC cs) V bd 0 [] [] = R at *
 clear hR
 generalize hcm : cs.length = cn at *
 go_enter_defers Tryz.func139, Tryz.ntmps139
 go_wp2_with (first | (go_at_call 76; refine (BR.out _).mono ?_; rintro e w9 ⟨rfl, rfl⟩) | (go_at_call 167; refine CR.out.mono ?_; rintro e w1 ⟨rfl, bb1⟩))
--@R3
 have D1' : Below w.heap.size w w1 := bT B1.out bb1
 have D1 := Lib.hid D1'.drew
 have F1 : Hid (Below w1.heap.size w1 w1.drew) := (Below.refl _ _).drew
 have X1w := Lib.hid (X1.out.below bb1)
 have KT : Hid (∀ W, Below w1.heap.size w1 W → w.heap.size < W.heap.size ∧ W.cell? ⟨w.heap.size, 0, none⟩ = some (.int .i64 (V : Int)) ∧ W.cell? ⟨w.heap.size, 1, none⟩ = some (.slice sl cn cap)) := fun W hW => by
  have h := (CA'.out.below bb1).below hW
  exact ⟨h.lt, h.cells⟩
 clear D1' bb1 CR q0 q1 ql
 refine wp_region_held_drew (S := fun W => w.heap.size < W.heap.size ∧ W.cell? ⟨w.heap.size, 0, none⟩ = some (.int .i64 (V : Int)) ∧ W.cell? ⟨w.heap.size, 1, none⟩ = some (.slice sl cn cap)) (by kernel_rfl) ?_ (fun hHeld => ?_)
 ·exact KT.out _ F1.out
 refine wpAnyH_take (i := 0) (oi := _) (v := ?_) rfl (by kernel_rfl) (by kernel_rfl) (by kernel_rfl) (fun _ _ _ h => pan8 15 _ (by decide) h) (Or.inl ⟨by rfl, ?_⟩) (by assumption) ?_
 rotate_left
 ·intro w hSw; (try dsimp only at hSw); go_simp; try with_reducible rfl
 try simp only [Act.put, setIfInBounds_toArray, set_cons_zero, set_cons_succ, getElem_toArray, getElem_cons_zero]
 refine wpAnyH_take (i := 1) (oi := _) (v := ?_) rfl (by kernel_rfl) (by kernel_rfl) (by kernel_rfl) (fun _ _ _ h => pan8 16 _ (by decide) h) (Or.inl ⟨by rfl, ?_⟩) (by assumption) ?_
 rotate_left
 ·intro w hSw; (try dsimp only at hSw); go_simp; try with_reducible rfl
 try simp only [Act.put, setIfInBounds_toArray, set_cons_zero, set_cons_succ, getElem_toArray, getElem_cons_succ, getElem_cons_zero]
 refine wpAnyH_take (i := 2) (oi := _) (v := ?_) rfl (by kernel_rfl) (by kernel_rfl) (by kernel_rfl) (fun _ _ _ h => pan8 17 _ (by decide) h) (Or.inl ⟨by rfl, ?_⟩) (by assumption) ?_
 rotate_left
 ·intro w hSw; (try dsimp only at hSw); go_simp; try with_reducible rfl
 try simp only [Act.put, setIfInBounds_toArray, set_cons_zero, set_cons_succ, getElem_toArray, getElem_cons_succ, getElem_cons_zero]
 refine wpAnyH_take (i := 3) (oi := _) (v := ?_) rfl (by kernel_rfl) (by kernel_rfl) (by kernel_rfl) (fun _ _ _ h => pan8 18 _ (by decide) h) (Or.inl ⟨by rfl, ?_⟩) (by assumption) ?_
 rotate_left
 ·intro w hSw; (try dsimp only at hSw); go_simp; try with_reducible rfl
 try simp only [Act.put, setIfInBounds_toArray, set_cons_zero, set_cons_succ, getElem_toArray, getElem_cons_succ, getElem_cons_zero]
 refine wpAnyH_ready (rs := [4, 6]) (by kernel_rfl) (by simp) ?_
 refine AllReadyH.cons rfl (fun K hK => ?_) (AllReadyH.cons rfl (fun K hK => ?_) AllReadyH.nil)
 ·go_simp
  go_wp2_with (go_at_call 168; refine (CW.out _ D1.out).mono ?_; rintro e w2 ⟨rfl, ⟨vr2, hs2, o2⟩, b2⟩)
  have D2 := Lib.hid (bT D1.out b2)
  have O2 : Hid (Bk w.heap.size (w1.heap.size + 1) vr2 hs2 cs (occI (bareC cs)) w2) := o2
  have F2 := Lib.hid (bT F1.out b2)
  have HCE : Hid ((((Tryz.zeroCells212.setIfInBounds 0 (.int .i64 (V : Int))).setIfInBounds 1 (.int .i64 (bd : Int))).setIfInBounds 3 (.pointer (some ⟨w1.heap.size + 1, 0, none⟩))) = (SF (V : Int) (bd : Int) 0 (.pointer (some ⟨w1.heap.size + 1, 0, none⟩)) (.slice none 0 0) (.slice none 0 0) ++ List.replicate 97 (Value.int .i64 0)).toArray) := by
   show _ = _
   kernel_rfl
  clear o2 b2
  refine hK.out _ _ ?_ (fun hHeld => ?_)
  ·exact KT.out _ F2.out
  clear hK K
  refine wpAnyH_take (i := 5) (oi := _) (v := ?_) rfl (by kernel_rfl) (by kernel_rfl) (by kernel_rfl) (fun _ _ _ h => pan8 20 _ (by decide) h) (Or.inl ⟨by rfl, ?_⟩) (by assumption) ?_
  rotate_left
  ·intro w hSw; (try dsimp only at hSw); go_simp; try with_reducible rfl
  try simp only [Act.put, setIfInBounds_toArray, set_cons_zero, set_cons_succ, getElem_toArray, getElem_cons_succ, getElem_cons_zero]
  refine wpAnyH_ready (rs := [6]) (by kernel_rfl) (by simp) ?_
  refine AllReadyH.cons rfl (fun K hK => ?_) AllReadyH.nil
  go_simp
  have AD := Lib.hid (bA D2.out (.cells Tryz.zeroCells212 212))
  have AF := Lib.hid (bA F2.out (.cells Tryz.zeroCells212 212))
  have AR : Hid ((w2.alloc (.cells Tryz.zeroCells212 212)).heap[w2.heap.size]? = some (.cells Tryz.zeroCells212 212)) := new_at _ _
  have hg : w.heap.size ≤ w2.heap.size := D2.out.size
  have hg1 : w1.heap.size ≤ w2.heap.size := F2.out.size
  refine hK.out _ _ ?_ (fun hHeld => ?_)
  ·exact KT.out _ AF.out
  clear hK K
  have O2a := Lib.hid (O2.out.below (bA0 w2 (.cells Tryz.zeroCells212 212)))
  refine wpAnyH_ready (rs := [7]) (by kernel_rfl) (by simp) ?_
  refine AllReadyH.cons rfl (fun K hK => ?_) AllReadyH.nil
  refine wp_store_row 212 _ _ rfl (w2.heap.size) (SF (V : Int) (bd : Int) 0 (.pointer (some ⟨w1.heap.size + 1, 0, none⟩)) (.slice none 0 0) (.slice none 0 0) ++ List.replicate 97 (Value.int .i64 0)).toArray (by simp [Act.eval]) (by exact congrArg Value.agg HCE.out) 212 _ AR.out (by kernel_rfl) (by kernel_rfl) (by kernel_rfl) ?_
  have F3 : Hid (Below w1.heap.size w1 ((w2.alloc (.cells Tryz.zeroCells212 212)).setRow (w2.heap.size) (SF (V : Int) (bd : Int) 0 (.pointer (some ⟨w1.heap.size + 1, 0, none⟩)) (.slice none 0 0) (.slice none 0 0) ++ List.replicate 97 (Value.int .i64 0)).toArray)) := below_setRow AF.out hg1 _
  have S3 := Lib.hid (solNew (V := V) (bd := bd) (cs := cs) AR.out O2a.out AD.out hg)
  have X3 : Hid (BoxO ((w2.alloc (.cells Tryz.zeroCells212 212)).setRow (w2.heap.size) (SF (V : Int) (bd : Int) 0 (.pointer (some ⟨w1.heap.size + 1, 0, none⟩)) (.slice none 0 0) (.slice none 0 0) ++ List.replicate 97 (Value.int .i64 0)).toArray) (w.heap.size + 1)) := (setRow_other _ _ _ _ (by have := X1w.out.facts.1; omega)).trans (X1w.out.below AF.out)
  refine hK.out _ _ ?_ (fun hHeld => ?_)
  ·exact KT.out _ F3.out
  clear hK K
  try simp only [Act.put, getElem_toArray, getElem_cons_succ, getElem_cons_zero]
  refine wpAnyH_done (by kernel_rfl) ?_ _
  generalize (w2.alloc (.cells Tryz.zeroCells212 212)).setRow (w2.heap.size) (SF (V : Int) (bd : Int) 0 (.pointer (some ⟨w1.heap.size + 1, 0, none⟩)) (.slice none 0 0) (.slice none 0 0) ++ List.replicate 97 (Value.int .i64 0)).toArray = W3 at *
  have hg3 := X1w.out.facts.1
  clear AD AF AR HCE D1 F1 F3 KT
  go_wp2_with fail
  refine (RU.out _ _ _ (by omega) S3.out).mono ?_
  rintro e w4 (⟨vt, vl, ls, rfl, hv, hb4, hk⟩ | ⟨st, ms, ls, D, tr, vc', vl, vd, rfl, hR, hS⟩)
  ·have X4 : BoxO w4 (w.heap.size + 1) := hk _ _ X3.out
   obtain ⟨ts, tk, rfl⟩ := own_v hv.tr
   obtain ⟨lv, lk, rfl⟩ := hv.ol.v
   have V4 := Lib.hid (hv.only (set5_only w4 (w.heap.size + 1) (.int .i64 R.1) (.slice ts R.2.1.length tk) (.slice lv ls.length lk) (.int .i64 R.2.2.2) (.int .i64 0)) X4)
   have B4 := Lib.hid (Only.below hb4 (by omega) (set5_only w4 (w.heap.size + 1) (.int .i64 R.1) (.slice ts R.2.1.length tk) (.slice lv ls.length lk) (.int .i64 R.2.2.2) (.int .i64 0)))
   have A4 := set5_at (v0 := .int .i64 R.1) (v1 := .slice ts R.2.1.length tk) (v2 := .slice lv ls.length lk) (v3 := .int .i64 R.2.2.2) (v4 := .int .i64 0) X4
   obtain ⟨r0, r1, r2, r3, r4⟩ := cells5 A4
   obtain ⟨bl6, c0, c1, c2, c3, c4, f0, f1, f2, f3, f4⟩ := X4.facts
   unfold set5 at V4 B4 r0 r1 r2 r3 r4
   clear hv hb4 hk X4 A4 RU S3 X3
   go_wp2
   refine leaves_cons (f := 169) (args := #[.pointer (some ⟨_, 0, none⟩), .pointer (some ⟨w.heap.size + 1, 0, none⟩)]) (by simp) (by simp [go_sem]; rfl) ?_
   refine (catch_i _ _ _).mono ?_
   rintro e u' w5 ⟨rfl, hu, rfl⟩
   dsimp only
   rw [hu]
   exact ⟨.agg #[.int .i64 R.1, .slice ts R.2.1.length tk, .slice lv ls.length lk, .int .i64 R.2.2.2, .int .i64 0], by simp [results, Tryz.results139, go_sem, r0, r1, r2, r3, r4], _, _, ls, rfl, V4.out, B4.out⟩
  ·have X4 : BoxO w4 (w.heap.size + 1) := hS.kp _ _ X3.out
   obtain ⟨lv, lk, rfl⟩ := hS.ol.v
   have CP := Lib.hid (catch_p w4 hS X4)
   dsimp only
   refine leaves_cons (f := 169) (args := #[.pointer (some ⟨_, 0, none⟩), .pointer (some ⟨w.heap.size + 1, 0, none⟩)]) (by simp) (by simp [go_sem]; rfl) ?_
   refine CP.out.mono ?_
   rintro e u' w5 ⟨rfl, hu, w6, b6, rfl⟩
   dsimp only
   rw [hu]
   subst hR
   have X6 := X4.below b6
   have S6 := hS.below b6
   have V6 : SoV w.heap.size (3, [], bareC ls, st) (.slice none 0 0) (.slice lv ls.length lk) ls w6 := ⟨⟨rfl, .inl ⟨rfl, rfl⟩⟩, S6.ol, rfl, fun r hr j hj e => by cases e⟩
   have A6 := set5_at (v0 := .int .i64 3) (v1 := .slice none 0 0) (v2 := .slice lv ls.length lk) (v3 := .int .i64 st) (v4 := .int .i64 0) X6
   obtain ⟨r0, r1, r2, r3, r4⟩ := cells5 A6
   exact ⟨.agg #[.int .i64 3, .slice none 0 0, .slice lv ls.length lk, .int .i64 st, .int .i64 0], by simp [results, Tryz.results139, go_sem, r0, r1, r2, r3, r4], _, _, ls, rfl, V6.only (set5_only _ _ _ _ _ _ _) X6, Only.below S6.bl (by omega) (set5_only _ _ _ _ _ _ _)⟩
 ·go_simp
  have AD := Lib.hid (bA D1.out (.cells Tryz.zeroCells212 212))
  have AF := Lib.hid (bA F1.out (.cells Tryz.zeroCells212 212))
  have AR : Hid ((w1.drew.alloc (.cells Tryz.zeroCells212 212)).heap[w1.heap.size]? = some (.cells Tryz.zeroCells212 212)) := new_at _ _
  have hg : w.heap.size ≤ w1.heap.size := D1.out.size
  have hg1 : w1.heap.size ≤ w1.heap.size := F1.out.size
  refine hK.out _ _ ?_ (fun hHeld => ?_)
  ·exact KT.out _ AF.out
  clear hK K
  refine wpAnyH_ready (rs := [4]) (by kernel_rfl) (by simp) ?_
  refine AllReadyH.cons rfl (fun K hK => ?_) AllReadyH.nil
  go_simp
  go_wp2_with (go_at_call 168; refine (CW.out _ AD.out).mono ?_; rintro e w2 ⟨rfl, ⟨vr2, hs2, o2⟩, b2⟩)
  have D2 := Lib.hid (bT AD.out b2)
  have O2 : Hid (Bk w.heap.size (w1.heap.size + 1 + 1) vr2 hs2 cs (occI (bareC cs)) w2) := by
   have := o2
   rw [show (w1.drew.alloc (.cells Tryz.zeroCells212 212)).heap.size = w1.heap.size + 1 by simp] at this
   exact this
  have F2 := Lib.hid (bT AF.out b2)
  have HCE : Hid ((((Tryz.zeroCells212.setIfInBounds 0 (.int .i64 (V : Int))).setIfInBounds 1 (.int .i64 (bd : Int))).setIfInBounds 3 (.pointer (some ⟨w1.heap.size + 1 + 1, 0, none⟩))) = (SF (V : Int) (bd : Int) 0 (.pointer (some ⟨w1.heap.size + 1 + 1, 0, none⟩)) (.slice none 0 0) (.slice none 0 0) ++ List.replicate 97 (Value.int .i64 0)).toArray) := by
   show _ = _
   kernel_rfl
  have R2 : Hid (w2.heap[w1.heap.size]? = some (.cells Tryz.zeroCells212 212)) := ((b2.block _ (Array.getElem?_eq_some_iff.1 AR.out).1).trans AR.out)
  clear o2 b2
  refine hK.out _ _ ?_ (fun hHeld => ?_)
  ·exact KT.out _ F2.out
  clear hK K
  refine wpAnyH_take (i := 5) (oi := _) (v := ?_) rfl (by kernel_rfl) (by kernel_rfl) (by kernel_rfl) (fun _ _ _ h => pan8 20 _ (by decide) h) (Or.inl ⟨by rfl, ?_⟩) (by assumption) ?_
  rotate_left
  ·intro w hSw; (try dsimp only at hSw); go_simp; try with_reducible rfl
  try simp only [Act.put, setIfInBounds_toArray, set_cons_zero, set_cons_succ, getElem_toArray, getElem_cons_succ, getElem_cons_zero]
  refine wpAnyH_ready (rs := [7]) (by kernel_rfl) (by simp) ?_
  refine AllReadyH.cons rfl (fun K hK => ?_) AllReadyH.nil
  refine wp_store_row 212 _ _ rfl (w1.heap.size) (SF (V : Int) (bd : Int) 0 (.pointer (some ⟨w1.heap.size + 1 + 1, 0, none⟩)) (.slice none 0 0) (.slice none 0 0) ++ List.replicate 97 (Value.int .i64 0)).toArray (by simp [Act.eval]) (by exact congrArg Value.agg HCE.out) 212 _ R2.out (by kernel_rfl) (by kernel_rfl) (by kernel_rfl) ?_
  have F3 : Hid (Below w1.heap.size w1 ((w2).setRow (w1.heap.size) (SF (V : Int) (bd : Int) 0 (.pointer (some ⟨w1.heap.size + 1 + 1, 0, none⟩)) (.slice none 0 0) (.slice none 0 0) ++ List.replicate 97 (Value.int .i64 0)).toArray)) := below_setRow F2.out hg1 _
  have S3 := Lib.hid (solNew (V := V) (bd := bd) (cs := cs) R2.out O2.out D2.out hg)
  have X3 : Hid (BoxO ((w2).setRow (w1.heap.size) (SF (V : Int) (bd : Int) 0 (.pointer (some ⟨w1.heap.size + 1 + 1, 0, none⟩)) (.slice none 0 0) (.slice none 0 0) ++ List.replicate 97 (Value.int .i64 0)).toArray) (w.heap.size + 1)) := (setRow_other _ _ _ _ (by have := X1w.out.facts.1; omega)).trans (X1w.out.below F2.out)
  refine hK.out _ _ ?_ (fun hHeld => ?_)
  ·exact KT.out _ F3.out
  clear hK K
  try simp only [Act.put, getElem_toArray, getElem_cons_succ, getElem_cons_zero]
  refine wpAnyH_done (by kernel_rfl) ?_ _
  generalize (w2).setRow (w1.heap.size) (SF (V : Int) (bd : Int) 0 (.pointer (some ⟨w1.heap.size + 1 + 1, 0, none⟩)) (.slice none 0 0) (.slice none 0 0) ++ List.replicate 97 (Value.int .i64 0)).toArray = W3 at *
  have hg3 := X1w.out.facts.1
  clear AD AF AR HCE D1 F1 F3 KT
  go_wp2_with fail
  refine (RU.out _ _ _ (by omega) S3.out).mono ?_
  rintro e w4 (⟨vt, vl, ls, rfl, hv, hb4, hk⟩ | ⟨st, ms, ls, D, tr, vc', vl, vd, rfl, hR, hS⟩)
  ·have X4 : BoxO w4 (w.heap.size + 1) := hk _ _ X3.out
   obtain ⟨ts, tk, rfl⟩ := own_v hv.tr
   obtain ⟨lv, lk, rfl⟩ := hv.ol.v
   have V4 := Lib.hid (hv.only (set5_only w4 (w.heap.size + 1) (.int .i64 R.1) (.slice ts R.2.1.length tk) (.slice lv ls.length lk) (.int .i64 R.2.2.2) (.int .i64 0)) X4)
   have B4 := Lib.hid (Only.below hb4 (by omega) (set5_only w4 (w.heap.size + 1) (.int .i64 R.1) (.slice ts R.2.1.length tk) (.slice lv ls.length lk) (.int .i64 R.2.2.2) (.int .i64 0)))
   have A4 := set5_at (v0 := .int .i64 R.1) (v1 := .slice ts R.2.1.length tk) (v2 := .slice lv ls.length lk) (v3 := .int .i64 R.2.2.2) (v4 := .int .i64 0) X4
   obtain ⟨r0, r1, r2, r3, r4⟩ := cells5 A4
   obtain ⟨bl6, c0, c1, c2, c3, c4, f0, f1, f2, f3, f4⟩ := X4.facts
   unfold set5 at V4 B4 r0 r1 r2 r3 r4
   clear hv hb4 hk X4 A4 RU S3 X3
   go_wp2
   refine leaves_cons (f := 169) (args := #[.pointer (some ⟨_, 0, none⟩), .pointer (some ⟨w.heap.size + 1, 0, none⟩)]) (by simp) (by simp [go_sem]; rfl) ?_
   refine (catch_i _ _ _).mono ?_
   rintro e u' w5 ⟨rfl, hu, rfl⟩
   dsimp only
   rw [hu]
   exact ⟨.agg #[.int .i64 R.1, .slice ts R.2.1.length tk, .slice lv ls.length lk, .int .i64 R.2.2.2, .int .i64 0], by simp [results, Tryz.results139, go_sem, r0, r1, r2, r3, r4], _, _, ls, rfl, V4.out, B4.out⟩
  ·have X4 : BoxO w4 (w.heap.size + 1) := hS.kp _ _ X3.out
   obtain ⟨lv, lk, rfl⟩ := hS.ol.v
   have CP := Lib.hid (catch_p w4 hS X4)
   dsimp only
   refine leaves_cons (f := 169) (args := #[.pointer (some ⟨_, 0, none⟩), .pointer (some ⟨w.heap.size + 1, 0, none⟩)]) (by simp) (by simp [go_sem]; rfl) ?_
   refine CP.out.mono ?_
   rintro e u' w5 ⟨rfl, hu, w6, b6, rfl⟩
   dsimp only
   rw [hu]
   subst hR
   have X6 := X4.below b6
   have S6 := hS.below b6
   have V6 : SoV w.heap.size (3, [], bareC ls, st) (.slice none 0 0) (.slice lv ls.length lk) ls w6 := ⟨⟨rfl, .inl ⟨rfl, rfl⟩⟩, S6.ol, rfl, fun r hr j hj e => by cases e⟩
   have A6 := set5_at (v0 := .int .i64 3) (v1 := .slice none 0 0) (v2 := .slice lv ls.length lk) (v3 := .int .i64 st) (v4 := .int .i64 0) X6
   obtain ⟨r0, r1, r2, r3, r4⟩ := cells5 A6
   exact ⟨.agg #[.int .i64 3, .slice none 0 0, .slice lv ls.length lk, .int .i64 st, .int .i64 0], by simp [results, Tryz.results139, go_sem, r0, r1, r2, r3, r4], _, _, ls, rfl, V6.only (set5_only _ _ _ _ _ _ _) X6, Only.below S6.bl (by omega) (set5_only _ _ _ _ _ _ _)⟩
end Go.Proofs.YtnihhbfgbilimaaGreatDoor
