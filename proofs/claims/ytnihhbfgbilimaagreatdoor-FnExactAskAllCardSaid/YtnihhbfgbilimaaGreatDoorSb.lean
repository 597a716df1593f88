/-
  THE SOLVER OVER A BOOK: solver.run.
-/
import Derived.Test.YtnihhbfgbilimaaGreatDoorWag
import Derived.Test.YtnihhbfgbilimaaGreatDoorSa
namespace Go.Proofs.YtnihhbfgbilimaaGreatDoor
open Go.RowKit
set_option linter.unusedVariables false

/-- A search under way, as lists. -/
structure RunI (w : World) (cs : List LCl) (V bud : Nat) (R : Res) (st : Nat) (ms ls : List LCl) (D : List Int) : Prop where
  eq : bareC ms = bareC cs ++ bareC ls
  inn : ∀ r ∈ ms, ClIn w r ∨ r ∈ ls
  ok : SOk (bareC cs) V (bareC ls) D
  few : ls.length ≤ st
  le : st ≤ bud
  run : solF (bareC cs) V (bud - st) st (bareC ls) D = R
  nd : ∀ r ∈ ms, r.2.Nodup ∧ r.2.length ≤ 1000
section
variable {w : World} {cs : List LCl} {V bud : Nat} {R : Res} {st : Nat} {ms ls : List LCl} {D : List Int}
theorem RunI.conf (h : RunI w cs V bud R st ms ls D) : uRun (bareC cs) (bareC ls) D = resF (bareC ms) (97 - D.length) D := by
  unfold uRun
  rw [h.eq]
theorem RunI.len (h : RunI w cs V bud R st ms ls D) : ms.length = cs.length + ls.length := by
  have := congrArg List.length h.eq
  simpa [bareC] using this
theorem RunI.lits (h : RunI w cs V bud R st ms ls D) : ∀ r ∈ ms, ∀ z ∈ r.2, OkZ (V : Int) z := fun r hr z hz => by
  have : r.2 ∈ bareC ms := List.mem_map.2 ⟨r, hr, rfl⟩
  rw [h.eq] at this
  exact h.ok.all _ this z hz
theorem RunI.sp (h : RunI w cs V bud R st ms ls D) : SpTo (V : Int) (resF (bareC ms) (97 - D.length) D).1 (resF (bareC ms) (97 - D.length) D).1.length :=
  resF_sp _ (fun l hl => by rw [h.eq] at hl; exact h.ok.all l hl) _ _ h.ok.ds
theorem RunI.stop (h : RunI w cs V bud R st ms ls D) (e : st = bud) : R = (3, [], bareC ls, (st : Int)) := by
  rw [← h.run]; exact solF_stop (by omega)
theorem RunI.yes (h : RunI w cs V bud R st ms ls D) (e : ¬ st = bud) (h1 : (resF (bareC ms) (97 - D.length) D).2 = -1) (h2 : opn (resF (bareC ms) (97 - D.length) D).1 V 1 = 0) : R = (1, trL (resF (bareC ms) (97 - D.length) D).1 V, bareC ls, (st : Int) + 1) := by
  rw [← h.conf] at h1 h2 ⊢
  have := h.le
  rw [← h.run]; exact solF_yes (by omega) h1 h2
theorem RunI.push (h : RunI w cs V bud R st ms ls D) (e : ¬ st = bud) (h1 : (resF (bareC ms) (97 - D.length) D).2 = -1) (h2 : ¬ opn (resF (bareC ms) (97 - D.length) D).1 V 1 = 0) : RunI w cs V bud R (st + 1) ms ls (D ++ [((opn (resF (bareC ms) (97 - D.length) D).1 V 1 : Nat) : Int)]) := by
  rw [← h.conf] at h1 h2 ⊢
  have hl := h.le
  have hf := h.few
  refine ⟨h.eq, h.inn, h.ok.push h2, by omega, by omega, ?_, h.nd⟩
  rw [← h.run, solF_push (n := bud - st) (by omega) h1 h2, show bud - st - 1 = bud - (st + 1) by omega]
  rfl
theorem RunI.no (h : RunI w cs V bud R st ms ls D) (e : ¬ st = bud) (h1 : ¬ (resF (bareC ms) (97 - D.length) D).2 = -1) (h2 : D.length = 0) : R = (2, [], bareC ls ++ [negL D], (st : Int) + 1) := by
  rw [← h.conf] at h1
  have := h.le
  rw [← h.run]; exact solF_no (by omega) h1 h2
theorem RunI.pop (h : RunI w cs V bud R st ms ls D) (e : ¬ st = bud) (h1 : ¬ (resF (bareC ms) (97 - D.length) D).2 = -1) (h2 : ¬ D.length = 0) (hV : V ≤ 96) (u : Value) : RunI w cs V bud R (st + 1) (ms ++ [(u, negL D)]) (ls ++ [(u, negL D)]) D.dropLast := by
  rw [← h.conf] at h1
  have hl := h.le
  have hf := h.few
  refine ⟨?_, fun r hr => ?_, ?_, by simp; omega, by omega, ?_, fun r hr => ?_⟩
  · rw [bareC_add, bareC_add, h.eq, List.append_assoc]
  · rcases List.mem_append.1 hr with g | g
    · rcases h.inn r g with g | g
      · exact .inl g
      · exact .inr (by simp [g])
    · exact .inr (by simp at g ⊢; exact .inr g)
  · rw [bareC_add]; exact h.ok.learn
  · rw [bareC_add, ← h.run, solF_pop (n := bud - st) (by omega) h1 h2, show bud - st - 1 = bud - (st + 1) by omega]
    rfl
  · rcases List.mem_append.1 hr with g | g
    · exact h.nd r g
    · rw [List.mem_singleton.1 g]
      have hd := SpTo.dup h.ok.ds (by omega : (V : Int) ≤ 96)
      exact ⟨negL_dup hd.1, by show (negL D).length ≤ 1000; rw [negL_len]; exact hd.2⟩
end
section
variable {w : World} {b : Nat} {us : Array Value} {v0 v1 v2 v3 v4 : Value}
end
abbrev SOv (x : Int) (vt vl : Value) (st : Int) : Value := .agg #[.int .i64 x, vt, vl, .int .i64 st, .int .i64 0]
/-- How a search ends. -/
def RPost (w W : World) (b V bud : Nat) (R : Res) (e : Ending) (w' : World) : Prop :=
  (∃ (vt vl : Value) (ls : List LCl), e = .returned (SOv R.1 vt vl R.2.2.2) ∧ SoV w.heap.size R vt vl ls w' ∧ Below w.heap.size w w' ∧ K30 W w') ∨
  (∃ (st : Int) (ms ls : List LCl) (D tr : List Int) (vc vl vd : Value), e = .panicked thrown ∧ R = (3, [], bareC ls, st) ∧ Sol w W b V bud st ms ls D tr vc vl vd w')
theorem Sol.rebase {w w0 : World} {b : Nat} {V bud st : Int} {ms ls : List LCl} {D tr : List Int} {vc vl vd : Value} {W : World} (h : Sol w w0 b V bud st ms ls D tr vc vl vd W) : Sol w W b V bud st ms ls D tr vc vl vd W := ⟨h.blk, h.bk, h.ol, h.od, h.da, h.bl, h.hb, K30.refl W⟩
theorem Sol.from {w w0 w1 : World} {b : Nat} {V bud st : Int} {ms ls : List LCl} {D tr : List Int} {vc vl vd : Value} {W : World} (h : Sol w w0 b V bud st ms ls D tr vc vl vd W) (hk : K30 w1 w0) : Sol w w1 b V bud st ms ls D tr vc vl vd W := ⟨h.blk, h.bk, h.ol, h.od, h.da, h.bl, h.hb, hk.trans h.kp⟩

theorem K30.high {w0 W : World} (h : K30 w0 W) {b : Nat} (hb : w0.heap.size ≤ b) (i : Nat) (v : Value) : K30 w0 (W.setCell ⟨b, i, none⟩ v) := fun k us hk =>
  (Below.heap_setCell _ _ _ _ (by have := (Array.getElem?_eq_some_iff.1 hk).1; show k ≠ b; omega)).trans (h k us hk)
/-- An answer laid into its block. -/
theorem rfin {w W W6 : World} {b V bud rb : Nat} {R : Res} {vt vl : Value} {ls : List LCl} (hx : BoxO W6 rb) (hr : W.heap.size ≤ rb) (hw : w.heap.size ≤ rb) (hs : SoV w.heap.size R vt vl ls W6) (hb : Below w.heap.size w W6) (hk : K30 W W6) :
    RPost w W b V bud R (.returned (SOv R.1 vt vl R.2.2.2)) (set5 W6 rb (.int .i64 R.1) vt vl (.int .i64 R.2.2.2) (.int .i64 0)) :=
  .inl ⟨vt, vl, ls, rfl, hs.only (set5_only _ _ _ _ _ _ _) hx, Only.below hb hw (set5_only _ _ _ _ _ _ _), ((((hk.high hr 0 _).high hr 1 _).high hr 2 _).high hr 3 _).high hr 4 _⟩

set_option maxRecDepth 100000 in
set_option maxHeartbeats 8000000 in
/-- solver.run. -/
theorem run_any {w : World} {b V bud : Nat} {cs : List LCl} {vc : Value} (R : Res) (W : World) (h : Sol w W b V bud 0 cs [] [] [] vc (.slice none 0 0) (.slice none 0 0) W) (hV : V ≤ 96) (hbd : bud ≤ 300) (hcs : cs.length ≤ 4000) (hi : RunI w cs V bud R 0 cs [] []) (hT : TabB w) (hb0 : b ≠ 0) :
    Calls Tryz.prog 171 #[.pointer (some ⟨b, 0, none⟩)] W (RPost w W b V bud R) := by
  have nw := new_at W (.cells #[.int .i64 0, .slice none 0 0, .slice none 0 0, .int .i64 0, .int .i64 0] 107)
  have bb := bA0 W (.cells #[.int .i64 0, .slice none 0 0, .slice none 0 0, .int .i64 0, .int .i64 0] 107)
  have KA : Hid (K30 W (W.alloc (.cells #[.int .i64 0, .slice none 0 0, .slice none 0 0, .int .i64 0, .int .i64 0] 107))) := (K30.refl W).below bb
  have SA := Lib.hid ((h.below bb).rebase)
  have BA : Hid (BoxO (W.alloc (.cells #[.int .i64 0, .slice none 0 0, .slice none 0 0, .int .i64 0, .int .i64 0] 107)) W.heap.size) := nw
  have HI := Lib.hid hi
  have hrb : w.heap.size ≤ W.heap.size := h.bl.size
  clear h nw bb hi
  generalize hrb' : W.heap.size = rb at *
  have KX : Hid (∀ W', K30 (W.alloc (.cells #[.int .i64 0, .slice none 0 0, .slice none 0 0, .int .i64 0, .int .i64 0] 107)) W' → BoxO W' rb) := fun W' hk => hk rb _ BA.out
  have KF : Hid (∀ W', K30 (W.alloc (.cells #[.int .i64 0, .slice none 0 0, .slice none 0 0, .int .i64 0, .int .i64 0] 107)) W' → K30 W W') := fun W' hk => KA.out.trans hk
  have SP : Hid (∀ (st : Nat) ms ls D tr vc vl vd W', ¬ st = bud → RunI w cs V bud R st ms ls D → Sol w (W.alloc (.cells #[.int .i64 0, .slice none 0 0, .slice none 0 0, .int .i64 0, .int .i64 0] 107)) b V bud (st : Int) ms ls D tr vc vl vd W' → Calls Tryz.prog 193 #[.pointer (some ⟨b, 0, none⟩)] W' fun e w' => e = .returned (.tuple #[]) ∧ Sol w (W.alloc (.cells #[.int .i64 0, .slice none 0 0, .slice none 0 0, .int .i64 0, .int .i64 0] 107)) b V bud ((st : Int) + 1) ms ls D tr vc vl vd w') := fun st ms ls D tr vc vl vd W' h1 h2 h3 => spend_some W' h3 (by omega) (by omega) (by have := h2.le; omega)
  have SN : Hid (∀ (st : Nat) ms ls D tr vc vl vd W', st = bud → Sol w (W.alloc (.cells #[.int .i64 0, .slice none 0 0, .slice none 0 0, .int .i64 0, .int .i64 0] 107)) b V bud (st : Int) ms ls D tr vc vl vd W' → Calls Tryz.prog 193 #[.pointer (some ⟨b, 0, none⟩)] W' fun e w' => e = .panicked thrown ∧ Sol w (W.alloc (.cells #[.int .i64 0, .slice none 0 0, .slice none 0 0, .int .i64 0, .int .i64 0] 107)) b V bud (st : Int) ms ls D tr vc vl vd w') := fun st ms ls D tr vc vl vd W' h1 h3 => spend_none W' h3 (by omega)
  have CO : Hid (∀ (st : Nat) (x : Int) ms ls D tr vc vl vd W', RunI w cs V bud R st ms ls D → Sol w (W.alloc (.cells #[.int .i64 0, .slice none 0 0, .slice none 0 0, .int .i64 0, .int .i64 0] 107)) b V bud x ms ls D tr vc vl vd W' → Calls Tryz.prog 194 #[.pointer (some ⟨b, 0, none⟩)] W' fun e w' => e = .returned (.bool (!((resF (bareC ms) (97 - D.length) D).2 == -1))) ∧ Sol w (W.alloc (.cells #[.int .i64 0, .slice none 0 0, .slice none 0 0, .int .i64 0, .int .i64 0] 107)) b V bud x ms ls D (resF (bareC ms) (97 - D.length) D).1 vc vl vd w') := fun st x ms ls D tr vc vl vd W' h2 h3 => conf_any W' h3 h2.inn hV h2.ok.ds (fun r hr => ⟨h2.lits r hr, h2.nd r hr⟩) (by have := h2.len; have := h2.few; have := h2.le; omega) hT hb0
  have LE : Hid (∀ (st : Nat) (x : Int) ms ls D tr vc vl vd W', RunI w cs V bud R st ms ls D → Sol w (W.alloc (.cells #[.int .i64 0, .slice none 0 0, .slice none 0 0, .int .i64 0, .int .i64 0] 107)) b V bud x ms ls D tr vc vl vd W' → Calls Tryz.prog 195 #[.pointer (some ⟨b, 0, none⟩)] W' fun e w' => e = .returned (.tuple #[]) ∧ ∃ (u vc' vl' : Value), Sol w (W.alloc (.cells #[.int .i64 0, .slice none 0 0, .slice none 0 0, .int .i64 0, .int .i64 0] 107)) b V bud x (ms ++ [(u, negL D)]) (ls ++ [(u, negL D)]) D tr vc' vl' vd w') := fun st x ms ls D tr vc vl vd W' h2 h3 => learn_any W' h3 (h2.ok.short hV) (SpTo.dup h2.ok.ds (by omega)).1 (fun z hz => by have := sp_ok h2.ok.ds z hz; have := this.2.1; have := (sp_ok h2.ok.ds z hz).2.2; omega) (by have := h2.few; have := h2.le; omega) (by have := h2.len; have := h2.few; have := h2.le; omega)
  have FO : Hid (∀ (st : Nat) (x : Int) ms ls D vc vl vd W', RunI w cs V bud R st ms ls D → Sol w (W.alloc (.cells #[.int .i64 0, .slice none 0 0, .slice none 0 0, .int .i64 0, .int .i64 0] 107)) b V bud x ms ls D (resF (bareC ms) (97 - D.length) D).1 vc vl vd W' → Calls Tryz.prog 197 #[.pointer (some ⟨b, 6, none⟩), .int .i64 (V : Int)] W' fun e w' => e = .returned (.int .i64 (opn (resF (bareC ms) (97 - D.length) D).1 V 1 : Nat)) ∧ w' = W') := fun st x ms ls D vc vl vd W' h2 h3 => fo_any b V _ W' h3.blk (SpTo.consA h2.sp) hV
  have TV : Hid (∀ (st : Nat) (x : Int) ms ls D vc vl vd W' W'', RunI w cs V bud R st ms ls D → Sol w (W.alloc (.cells #[.int .i64 0, .slice none 0 0, .slice none 0 0, .int .i64 0, .int .i64 0] 107)) b V bud x ms ls D (resF (bareC ms) (97 - D.length) D).1 vc vl vd W' → Below W'.heap.size W' W'' → Calls Tryz.prog 198 #[.pointer (some ⟨b, 6, none⟩), .int .i64 (V : Int)] W'' fun e w' => ∃ v, e = .returned v ∧ w'.ownsRow W''.heap.size 2 1 v (trL (resF (bareC ms) (97 - D.length) D).1 V).length (valsZ (trL (resF (bareC ms) (97 - D.length) D).1 V)) ∧ Below W''.heap.size W'' w') := fun st x ms ls D vc vl vd W' W'' h2 h3 h4 => tv_any b V _ W'' (h3.blk.below h4) (SpTo.consA h2.sp) hV
  have SFX : Hid (∀ (x : Int) ms ls D tr vc vl vd W', Sol w (W.alloc (.cells #[.int .i64 0, .slice none 0 0, .slice none 0 0, .int .i64 0, .int .i64 0] 107)) b V bud x ms ls D tr vc vl vd W' → b < W'.heap.size ∧ W'.cell? ⟨b, 0, none⟩ = some (.int .i64 (V : Int))) := fun x ms ls D tr vc vl vd W' h => ⟨h.facts.1, h.facts.2.1⟩
  clear hcs hbd hT
  go_enter Tryz.func171, Tryz.ntmps171
  go_wp2
  go_loopg [3] (bud + 1) (fun g o wr => ∃ (st : Nat) (ms ls : List LCl) (D tr : List Int) (vc vl vd : Value), st + g = bud + 1 ∧ Hid (Sol w (W.alloc (.cells #[.int .i64 0, .slice none 0 0, .slice none 0 0, .int .i64 0, .int .i64 0] 107)) b V bud (st : Int) ms ls D tr vc vl vd wr) ∧ Hid (RunI w cs V bud R st ms ls D))
  case atStart => exact ⟨0, cs, [], [], [], vc, _, _, by omega, SA, HI⟩
  case round =>
    obtain ⟨st, ms, ls, D, tr, vc1, vl1, vd1, hg, H1, H2⟩ := hrel
    have hle := H2.out.le
    by_cases hst : st = bud
    · have C := Lib.hid (SN.out st ms ls D tr vc1 vl1 vd1 wr hst H1.out)
      have E := Lib.hid (H2.out.stop hst)
      clear SP SN CO LE FO TV SFX
      go_wp2_with fail
      refine C.out.mono ?_
      rintro e w1 ⟨rfl, S1⟩
      have P := Lib.hid (S1.from KA.out)
      clear S1
      go_wp2
      exact ⟨rfl, .inr ⟨_, _, _, _, _, _, _, _, rfl, E.out, P.out⟩⟩
    have C := Lib.hid (SP.out st ms ls D tr vc1 vl1 vd1 wr hst H2.out H1.out)
    go_wp2_with fail
    refine C.out.mono ?_
    rintro e w1 ⟨rfl, S1⟩
    have C2 := Lib.hid (CO.out st _ ms ls D tr vc1 vl1 vd1 w1 H2.out S1)
    clear S1 C SP SN H1
    by_cases hcf : (resF (bareC ms) (97 - D.length) D).2 = -1
    · rw [hcf] at C2
      go_wp2_with fail
      refine C2.out.mono ?_
      rintro e w2 ⟨rfl, S2⟩
      have S2d := S2.below (below_drew' w2)
      have C3 := Lib.hid (FO.out st _ ms ls D vc1 vl1 vd1 w2.drew H2.out S2d)
      obtain ⟨l2, q0⟩ := SFX.out _ _ _ _ _ _ _ _ _ S2
      have HS2 := Lib.hid S2d
      clear C2 S2 S2d
      by_cases ho : opn (resF (bareC ms) (97 - D.length) D).1 V 1 = 0
      · have E := Lib.hid (H2.out.yes hst hcf ho)
        rw [ho] at C3
        go_wp2
        go_region_with (go_at_call 197; refine C3.out.mono ?_; rintro e w3 ⟨rfl, rfl⟩)
        obtain ⟨lv, lk, ev⟩ := HS2.out.ol.v
        subst ev
        have C4 := Lib.hid (told_any 1 w2.drew HS2.out)
        go_wp2_with (go_at_call 170; refine C4.out.mono ?_; rintro e w4 ⟨rfl, b4⟩)
        have B4 := Lib.hid (bA b4 (.cells #[.int .i64 1, .slice none 0 0, .slice lv ls.length lk, .int .i64 ((st : Int) + 1), .int .i64 0] 107))
        have N4 := Lib.hid (new_at w4 (.cells #[.int .i64 1, .slice none 0 0, .slice lv ls.length lk, .int .i64 ((st : Int) + 1), .int .i64 0] 107))
        have hz4 : (w4.alloc (.cells #[.int .i64 1, .slice none 0 0, .slice lv ls.length lk, .int .i64 ((st : Int) + 1), .int .i64 0] 107)).heap.size = w4.heap.size + 1 := by simp
        have hz2 := b4.size
        have S4 := Lib.hid (HS2.out.below B4.out)
        have q4 := (SFX.out _ _ _ _ _ _ _ _ _ S4.out).2
        have l4 := (SFX.out _ _ _ _ _ _ _ _ _ S4.out).1
        clear b4 C4 C3
        generalize hN4 : w4.alloc (.cells #[.int .i64 1, .slice none 0 0, .slice lv ls.length lk, .int .i64 ((st : Int) + 1), .int .i64 0] 107) = n4 at *
        clear hN4
        have C5 := Lib.hid (TV.out st _ ms ls D _ _ _ w2.drew n4.drew H2.out HS2.out B4.out.drew)
        have M5 : Hid (∀ w5 : World, Below n4.heap.size n4 w5 → w4.heap.size < w5.heap.size ∧ w5.cell? ⟨w4.heap.size, 1, none⟩ = some (.slice none 0 0) ∧ w5.frozen? ⟨w4.heap.size, 1, none⟩ = false ∧ w5.heap[w4.heap.size]? = some (.cells #[.int .i64 1, .slice none 0 0, .slice lv ls.length lk, .int .i64 ((st : Int) + 1), .int .i64 0] 107)) := fun w5 hb => by
          have hh := (hb.block w4.heap.size (by omega)).trans N4.out
          exact ⟨(Array.getElem?_eq_some_iff.1 hh).1, (cells5 hh).2.1, by simp [World.frozen?, hh], hh⟩
        go_wp2
        go_region_with (go_at_call 198; refine C5.out.mono ?_; rintro e w5 ⟨v5, rfl, o5, b5⟩; obtain ⟨s5, k5, rfl⟩ := own_v o5; have hb5 := (below_drew' n4).trans b5; obtain ⟨z1, z2, z3, z4⟩ := M5.out w5 hb5; have Z4 := Lib.hid z4; have O5 := Lib.hid o5; have B5 := Lib.hid hb5; clear z4 o5 b5 hb5)
        all_goals
          have e := E.out
          subst e
          have K5 := S4.out.kp.below B5.out
          have X5 := KX.out _ K5
          have hr4 := (KX.out _ HS2.out.kp).facts.1
          have hr4' : rb < w4.heap.size := by have : w2.drew.heap.size = w2.heap.size := rfl; omega
          have ne4 : rb ≠ w4.heap.size := by omega
          have O6 : (w5.setCell ⟨w4.heap.size, 1, none⟩ (.slice s5 (trL (resF (bareC ms) (97 - D.length) D).1 V).length k5)).heap[w4.heap.size]? = some (.cells #[.int .i64 1, .slice s5 (trL (resF (bareC ms) (97 - D.length) D).1 V).length k5, .slice lv ls.length lk, .int .i64 ((st : Int) + 1), .int .i64 0] 107) := heap_setCell_same w5 w4.heap.size 1 _ 107 _ Z4.out
          have X6 : BoxO (w5.setCell ⟨w4.heap.size, 1, none⟩ (.slice s5 (trL (resF (bareC ms) (97 - D.length) D).1 V).length k5)) rb := (Below.heap_setCell _ _ _ _ ne4).trans X5
          have KW6 := (KF.out _ K5).high (b := w4.heap.size) (by omega) 1 (.slice s5 (trL (resF (bareC ms) (97 - D.length) D).1 V).length k5)
          have S5 := S4.out.below B5.out
          have V6 : SoV w.heap.size (1, trL (resF (bareC ms) (97 - D.length) D).1 V, bareC ls, (st : Int) + 1) (.slice s5 (trL (resF (bareC ms) (97 - D.length) D).1 V).length k5) (.slice lv ls.length lk) ls (w5.setCell ⟨w4.heap.size, 1, none⟩ (.slice s5 (trL (resF (bareC ms) (97 - D.length) D).1 V).length k5)) := by
            have hn : n4.drew.heap.size = n4.heap.size := rfl
            refine ⟨own_box (own_mono O5.out (by omega)) Z4.out (by decide) 1 _, owc_box S5.ol Z4.out (by decide) (by decide) 1 _, rfl, fun r hr j hj e => ?_⟩
            have h1 := ((S4.out.ol.each r hr).lt j hj).2
            have h2 := (O5.out.lt j e).1
            omega
          have F := Lib.hid (rfin (b := b) (V := V) (bud := bud) X6 (Nat.le_of_eq hrb') hrb V6 (S5.bl.setCell (p := ⟨w4.heap.size, 1, none⟩) (by show w.heap.size ≤ w4.heap.size; omega) _) KW6)
          have A6 := set5_at (v0 := .int .i64 1) (v1 := .slice s5 (trL (resF (bareC ms) (97 - D.length) D).1 V).length k5) (v2 := .slice lv ls.length lk) (v3 := .int .i64 ((st : Int) + 1)) (v4 := .int .i64 0) X6
          obtain ⟨r0, r1, r2, r3, r4⟩ := cells5 A6
          obtain ⟨i0, i1, i2, i3, i4⟩ := cells5 O6
          obtain ⟨bl6, c0, c1, c2, c3, c4, f0, f1, f2, f3, f4⟩ := X6.facts
          have l6 : w4.heap.size < (w5.setCell ⟨w4.heap.size, 1, none⟩ (.slice s5 (trL (resF (bareC ms) (97 - D.length) D).1 V).length k5)).heap.size := (Array.getElem?_eq_some_iff.1 O6).1
          dsimp only at F
          unfold set5 at F r0 r1 r2 r3 r4
          clear A6 O6 X6 V6 KW6 S5 X5 K5 M5 TV FO SFX LE CO KX KF KA E HS2 S4 N4 B4 C5 O5 B5 Z4 H2 ho hcf
          generalize (trL (resF (bareC ms) (97 - D.length) D).1 V).length = tn at *
          generalize ls.length = ln at *
          generalize w5.setCell ⟨w4.heap.size, 1, none⟩ (.slice s5 tn k5) = w6 at *
          go_wp2
          exact bodyPost_ret (v := SOv 1 (.slice s5 tn k5) (.slice lv ln lk) ((st : Int) + 1)) (by simp [results, Tryz.results171, go_sem, r0, r1, r2, r3, r4]) rfl F.out
      · have RI := Lib.hid (H2.out.push hst hcf ho)
        have ho' : (((opn (resF (bareC ms) (97 - D.length) D).1 V 1 : Nat) : Int) == 0) = false := by simpa using ho
        have C4 := Lib.hid (push_any ((opn (resF (bareC ms) (97 - D.length) D).1 V 1 : Nat) : Int) w2.drew HS2.out (by have := H2.out.ok.short hV; omega))
        generalize opn (resF (bareC ms) (97 - D.length) D).1 V 1 = z at *
        clear FO TV CO LE
        go_wp2
        go_region_with (go_at_call 197; refine C3.out.mono ?_; rintro e w3 ⟨rfl, rfl⟩)
        go_wp2_with (go_at_call 199; refine C4.out.mono ?_; rintro e w4 ⟨rfl, vd', S4⟩)
        go_wp2
        go_roundg (gk - 1)
        case measure => omega
        case rel => exact ⟨st + 1, ms, ls, _, _, _, _, vd', by omega, S4, RI⟩
    · have hcf' : ((resF (bareC ms) (97 - D.length) D).2 == -1) = false := by simpa using hcf
      rw [hcf'] at C2
      go_wp2_with fail
      refine C2.out.mono ?_
      rintro e w2 ⟨rfl, S2⟩
      have C3 := Lib.hid (LE.out st _ ms ls D _ vc1 vl1 vd1 w2 H2.out S2)
      clear C2 S2 CO FO TV
      go_wp2_with fail
      refine C3.out.mono ?_
      rintro e w3 ⟨rfl, u, vc', vl', S3⟩
      have HS3 := Lib.hid S3
      have l3 := (SFX.out _ _ _ _ _ _ _ _ _ S3).1
      clear C3 S3
      by_cases hD : D.length = 0
      · have E := Lib.hid (H2.out.no hst hcf hD)
        have C4 := Lib.hid (pop_none w3 HS3.out hD)
        obtain ⟨lv, lk, ev⟩ := HS3.out.ol.v
        subst ev
        have C5 := Lib.hid (told_any 2 w3 HS3.out)
        go_wp2_with (go_at_call 196; refine C4.out.mono ?_; rintro e w4 ⟨rfl, rfl⟩)
        refine C5.out.mono ?_
        rintro e w5 ⟨rfl, b5⟩
        have S5 := HS3.out.below b5
        have X6 := KX.out _ S5.kp
        have e := E.out
        subst e
        have V6 : SoV w.heap.size (2, [], bareC ls ++ [negL D], (st : Int) + 1) (.slice none 0 0) (.slice lv (ls ++ [(u, negL D)]).length lk) (ls ++ [(u, negL D)]) w5 := ⟨⟨rfl, .inl ⟨rfl, rfl⟩⟩, S5.ol, by rw [bareC_add]; rfl, fun r hr j hj e => by cases e⟩
        have F := Lib.hid (rfin (b := b) (V := V) (bud := bud) X6 (Nat.le_of_eq hrb') hrb V6 S5.bl (KF.out _ S5.kp))
        have A6 := set5_at (v0 := .int .i64 2) (v1 := .slice none 0 0) (v2 := .slice lv (ls ++ [(u, negL D)]).length lk) (v3 := .int .i64 ((st : Int) + 1)) (v4 := .int .i64 0) X6
        obtain ⟨r0, r1, r2, r3, r4⟩ := cells5 A6
        obtain ⟨bl6, c0, c1, c2, c3, c4, f0, f1, f2, f3, f4⟩ := X6.facts
        dsimp only at F
        unfold set5 at F r0 r1 r2 r3 r4
        clear A6 X6 V6 S5 SFX LE KX KF KA E HS3 C4 C5 H2 hcf b5 l3
        generalize (ls ++ [(u, negL D)]).length = ln at *
        go_wp2
        exact bodyPost_ret (v := SOv 2 (.slice none 0 0) (.slice lv ln lk) ((st : Int) + 1)) (by simp [results, Tryz.results171, go_sem, r0, r1, r2, r3, r4]) rfl F.out
      · have RI := Lib.hid (H2.out.pop hst hcf hD hV u)
        have C4 := Lib.hid (pop_some w3 HS3.out hD (by have := H2.out.ok.short hV; omega))
        go_wp2_with (go_at_call 196; refine C4.out.mono ?_; rintro e w4 ⟨rfl, vd', S4⟩)
        go_wp2
        go_roundg (gk - 1)
        case measure => omega
        case rel => exact ⟨st + 1, _, _, _, _, _, _, vd', by omega, S4, RI⟩
end Go.Proofs.YtnihhbfgbilimaaGreatDoor
