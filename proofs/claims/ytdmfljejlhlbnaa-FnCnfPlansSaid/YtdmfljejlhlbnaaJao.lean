/-
  A PLAN IS SOUGHT: impl.PlanFind and spec.PlanFind.
  A PLAN IS SOUGHT: spec.PlanFind.
  MARKS ON PLACES; two lists of numbers held against each other: slices.Equal.
  THE PLAN OF TRUES: impl.PlanOf.
  THE LAW 13: the walk.
  WHAT A SEARCH ANSWERS IS HELD AGAINST ANOTHER, marked and held: eqPlanOut, markPlanOut, heldPlanOut.
  A PLACE PUT INTO A ROW: slices.Clone and slices.Insert at places.
  A PLACE PUT INTO A ROW: slices.Insert at places.
  THE CLAUSES OF A TABLE, as lists: gathered by stations (the program) and by variables (the model): the same.
  THE LAWS' CLAUSES: how they lie; their size; copied, held against each other.
-/
import Derived.Test.YtdmfljejlhlbnaaJan
import Derived.Test.YtdmfljejlhlbnaaJam
import Derived.Test.YtdmfljejlhlbnaaJak
import Derived.BigQuiet
import Derived.Test.YtdmfljejlhlbnaaJai
import Derived.Shelf.RegionOpenPlain
import Derived.Lib.Overlaps
import Derived.Lib.SliceRun
import Derived.Laws.Externs
import Derived.Test.YtdmfljejlhlbnaaJac
import Derived.Deep.RegionHeldLaw
namespace Go.Proofs.Ytdmfljejlhlbnaa
open Go.RowKit
set_option linter.unusedVariables false

theorem idsR_small_x {rs : List LSt} {ps : List LPr} {ids : List Int} (h : IdsR rs ps ids) (x : Int) (hx : x ∈ ids) : 1 ≤ x ∧ x ≤ 999 := by
  have hr := inRise_of h.2.1.2.2.1 h.2.2.1 h.2.2.2
  obtain ⟨i, hi, e⟩ := List.getElem_of_mem hx
  have := (hr i hi).1
  rw [List.getD_eq_getElem?_getD, List.getElem?_eq_getElem hi] at this
  simp only [Option.getD_some] at this
  rw [e] at this
  exact this
/-- Is it sought at all? -/
def PfOk (rs : List LSt) (ps : List LPr) (ids : List Int) (bd : Int) : Prop := IdsR rs ps ids ∧ 0 ≤ bd ∧ bd ≤ 2000
def pfS (rs : List LSt) (ps : List LPr) (top : Int) (ids : List Int) (bd : Int) : SRes := seek (fitB ps) bd.toNat (ids.map (chF rs top)) [] 0
noncomputable def pfV (rs : List LSt) (ps : List LPr) (top : Int) (ids : List Int) (bd : Int) : Int := if B (PfOk rs ps ids bd) = true then (pfS rs ps top ids bd).vd else 0
noncomputable def pfP (rs : List LSt) (ps : List LPr) (top : Int) (ids : List Int) (bd : Int) : List LPl := if B (PfOk rs ps ids bd) = true then (pfS rs ps top ids bd).pl else []
noncomputable def pfT (rs : List LSt) (ps : List LPr) (top : Int) (ids : List Int) (bd : Int) : Int := if B (PfOk rs ps ids bd) = true then ((pfS rs ps top ids bd).st : Nat) else 0
noncomputable def pfC (rs : List LSt) (ps : List LPr) (ids : List Int) (bd : Int) : Int := if B (PfOk rs ps ids bd) = true then 0 else if 400 < ids.length then 2 else 1
theorem pf_no {rs : List LSt} {ps : List LPr} {ids : List Int} {bd : Int} (top : Int) (h : ¬ PfOk rs ps ids bd) : pfV rs ps top ids bd = 0 ∧ pfP rs ps top ids bd = [] ∧ pfT rs ps top ids bd = 0 ∧ pfC rs ps ids bd = if 400 < ids.length then 2 else 1 := by
  unfold pfV pfP pfT pfC
  rw [B_no h]
  exact ⟨rfl, rfl, rfl, rfl⟩
theorem pf_yes {rs : List LSt} {ps : List LPr} {ids : List Int} {bd : Int} (top : Int) (h : PfOk rs ps ids bd) : pfV rs ps top ids bd = (pfS rs ps top ids bd).vd ∧ pfP rs ps top ids bd = (pfS rs ps top ids bd).pl ∧ pfT rs ps top ids bd = ((pfS rs ps top ids bd).st : Nat) ∧ pfC rs ps ids bd = 0 := by
  unfold pfV pfP pfT pfC
  rw [B_yes h]
  exact ⟨rfl, rfl, rfl, rfl⟩
abbrev PV (a : Int) (v : Value) (b c : Int) : Value := .agg #[.int .i64 a, v, .int .i64 b, .int .i64 c]

end Go.Proofs.Ytdmfljejlhlbnaa
namespace Go.Proofs.Ytdmfljejlhlbnaa
open Go.RowKit
set_option linter.unusedVariables false

/-- A slice of places that lies below block L. -/
def SpR (w : World) (L : Nat) (v : Value) (pl : List LPl) : Prop := ∃ sl cap, v = .slice sl pl.length cap ∧ (pl = [] ∨ ∃ c o, sl = some ⟨c, o, none⟩ ∧ PlAt w c o pl ∧ c < L)
theorem SpR.nil (w : World) (L : Nat) : SpR w L (.slice none 0 0) [] := ⟨none, 0, rfl, .inl rfl⟩
theorem SpR.kept {w w' : World} {L : Nat} {v : Value} {pl : List LPl} (h : SpR w L v pl) (hs : w.heap.size ≤ w'.heap.size) (hb : ∀ k, k < w.heap.size → k < L → w'.heap[k]? = w.heap[k]?) : SpR w' L v pl := by
  obtain ⟨sl, cap, e, h⟩ := h
  refine ⟨sl, cap, e, ?_⟩
  rcases h with h | ⟨c, o, e2, p, hl⟩
  · exact .inl h
  · exact .inr ⟨c, o, e2, ⟨Nat.lt_of_lt_of_le p.lt hs, fun i hi => ⟨(World.cell?_of_block (w := w) (hb c p.lt hl)).trans (p.cell i hi).1, (World.cell?_of_block (w := w) (hb c p.lt hl)).trans (p.cell i hi).2⟩⟩, hl⟩
theorem SpR.below {w w' : World} {L : Nat} {v : Value} {pl : List LPl} (h : SpR w L v pl) (hb : Below w.heap.size w w') : SpR w' L v pl := h.kept hb.size (fun k hk _ => hb.block k hk)
theorem SpR.pls {w : World} {L : Nat} {v : Value} {pl : List LPl} (h : SpR w L v pl) : ∃ sl cap, v = .slice sl pl.length cap ∧ Pls w sl pl := by
  obtain ⟨sl, cap, e, h⟩ := h
  refine ⟨sl, cap, e, ?_⟩
  rcases h with h | ⟨c, o, e2, p, hl⟩
  · exact .inl h
  · exact .inr ⟨c, o, e2, p⟩

set_option maxRecDepth 100000 in
set_option maxHeartbeats 8000000 in
/-- spec.PlanFind. -/
theorem spl_any (sl : Option Addr) (cap : Nat) (sl2 : Option Addr) (cap2 : Nat) (sl3 : Option Addr) (cap3 : Nat) (rs : List LSt) (ps : List LPr) (top : Int) (ids : List Int) (bd : Int) (w : World) (hn : rs.length ≤ 1048576) (hl : ids.length ≤ 1048576) (hz : Sts w sl rs) (hp : Prs w sl2 ps) (hi : Ints w sl3 ids) :
    Calls Try.prog 45 #[TV sl rs.length cap sl2 ps.length cap2, .int .i64 top, .slice sl3 ids.length cap3, .int .i64 bd] w fun e w' => ∃ pv, e = .returned (PV (pfV rs ps top ids bd) pv (pfT rs ps top ids bd) (pfC rs ps ids bd)) ∧ SpR w' w'.heap.size pv (pfP rs ps top ids bd) ∧ Below w.heap.size w w' := by
  have E1 : Hid (∀ W, Below w.heap.size w W → Calls Try.prog 34 #[TV sl rs.length cap sl2 ps.length cap2, .slice sl3 ids.length cap3] W fun e w' => e = .returned (.bool (B (IdsR rs ps ids))) ∧ Below W.heap.size W w') := fun W hW => sir_any sl cap sl2 cap2 sl3 cap3 rs ps ids W hn hl (hz.below hW) (hp.below hW) (hi.below hW)
  have HT := Lib.hid ((TabAt.new w sl rs.length cap sl2 ps.length cap2).below (bA0 _ (.cells #[.int .i64 0, .slice none 0 0, .int .i64 0, .int .i64 0] 70)))
  have X0 : Hid (BoxP ((w.alloc (.cells #[.slice sl rs.length cap, .slice sl2 ps.length cap2] 26)).alloc (.cells #[.int .i64 0, .slice none 0 0, .int .i64 0, .int .i64 0] 70)) (w.heap.size + 1)) := by
    have := new_at (w.alloc (.cells #[.slice sl rs.length cap, .slice sl2 ps.length cap2] 26)) (.cells #[.int .i64 0, .slice none 0 0, .int .i64 0, .int .i64 0] 70)
    rwa [show (w.alloc (.cells #[.slice sl rs.length cap, .slice sl2 ps.length cap2] 26)).heap.size = w.heap.size + 1 by simp] at this
  have B0 := Lib.hid (bA (bA0 w (.cells #[.slice sl rs.length cap, .slice sl2 ps.length cap2] 26)) (.cells #[.int .i64 0, .slice none 0 0, .int .i64 0, .int .i64 0] 70))
  by_cases h4 : 400 < ids.length
  · have h4' : (400 : Int) < (ids.length : Int) := by omega
    obtain ⟨pe1, pe2, pe3, pe4⟩ := pf_no (bd := bd) top (fun h : PfOk rs ps ids bd => by have := h.1.1; omega)
    rw [if_pos h4] at pe4
    rw [pe1, pe2, pe3, pe4]
    clear pe1 pe2 pe3 pe4 hz hp hi E1 HT
    generalize rs.length = rn at *
    generalize ps.length = pn at *
    generalize ids.length = n at *
    clear B0 X0
    go_enter Try.func45, Try.ntmps45
    go_wp2
    refine bodyPost_ret (v := PV 0 (.slice none 0 0) 0 2) (by simp [results, Try.results45, go_sem]) rfl ⟨_, rfl, SpR.nil _ _, bA (bA0 _ _) _⟩
  have h4' : ¬ (400 : Int) < (ids.length : Int) := by omega
  by_cases hok : PfOk rs ps ids bd
  · obtain ⟨bud, hbud⟩ : ∃ b : Nat, (b : Int) = bd := ⟨bd.toNat, by have := hok.2.1; omega⟩
    subst hbud
    have hir := hok.1
    obtain ⟨pe1, pe2, pe3, pe4⟩ := pf_yes top hok
    rw [pe1, pe2, pe3, pe4]
    rw [B_yes hir] at E1
    have hbd0 : ¬ (bud : Int) < 0 := by omega
    have hbd1 : ¬ (2000 : Int) < (bud : Int) := by have := hok.2.2; omega
    have ES : Hid (pfS rs ps top ids (bud : Int) = seek (fitB ps) bud (ids.map (chF rs top)) [] 0) := by unfold pfS; rw [Int.toNat_natCast]; exact Lib.hid rfl
    have FR : Hid (∀ kb wb W v pcap, Below w.heap.size w wb → wb.heap.size ≤ kb → Below wb.heap.size wb W → SeekAt W kb (.slice sl rs.length cap) (.slice sl2 ps.length cap2) (.int .i64 top) (.slice sl3 ids.length cap3) bud 0 false → Calls Try.prog 111 #[.pointer (some ⟨kb, 0, none⟩), .slice v 0 pcap] W (FromP kb (.slice sl rs.length cap) (.slice sl2 ps.length cap2) (.int .i64 top) (.slice sl3 ids.length cap3) bud W (pfS rs ps top ids (bud : Int)))) := fun kb wb W v pcap hb hk hW sk => by
      rw [ES.out]
      exact from_any sl cap sl2 cap2 sl3 cap3 rs ps top ids bud kb wb hk (by omega) hn hir.1 (hz.below hb) (hp.below hb) hir.2.1 (idsR_small_x hir) (hi.below hb) ids.length [] 0 v pcap W (Nat.zero_add _) (Nat.zero_le _) hW sk (.inl rfl) (fun x hx => by cases hx)
    clear hok hir hz hp hi pe1 pe2 pe3 pe4 ES
    generalize pfS rs ps top ids (bud : Int) = R at *
    generalize rs.length = rn at *
    generalize ps.length = pn at *
    generalize ids.length = n at *
    go_enter Try.func45, Try.ntmps45
    go_wp2_with fail
    generalize (w.alloc (.cells #[.slice sl rn cap, .slice sl2 pn cap2] 26)).alloc (.cells #[.int .i64 0, .slice none 0 0, .int .i64 0, .int .i64 0] 70) = w0 at *
    refine (E1.out _ B0.out).mono ?_
    rintro e w1 ⟨rfl, b1⟩
    have D1 := Lib.hid (bT B0.out b1)
    have HT1 := HT.out.below b1
    have X1 : Hid (BoxP w1 (w.heap.size + 1)) := (b1.block _ X0.out.facts.1).trans X0.out
    have hs1 := X1.out.facts.1
    obtain ⟨t0, t1⟩ := HT1.cells
    have tl := HT1.lt
    clear b1 E1 HT X0 B0 HT1
    have SK1 : SeekAt (w1.alloc (.cells #[.slice sl rn cap, .slice sl2 pn cap2, .int .i64 top, .slice sl3 n cap3, .int .i64 (bud : Nat), .int .i64 0, .bool false] 136)) w1.heap.size (.slice sl rn cap) (.slice sl2 pn cap2) (.int .i64 top) (.slice sl3 n cap3) bud 0 false := new_at _ _
    have F2 := Lib.hid (FR.out w1.heap.size w1 ((w1.alloc (.cells #[.slice sl rn cap, .slice sl2 pn cap2, .int .i64 top, .slice sl3 n cap3, .int .i64 (bud : Nat), .int .i64 0, .bool false] 136)).alloc (.cells #[] 34)) (some ⟨w1.heap.size + 1, 0, none⟩) 0 D1.out (Nat.le_refl _) (bA (bA0 _ _) _) (SK1.of (bA0 _ _)))
    have B2 := Lib.hid (bA (bA0 w1 (.cells #[.slice sl rn cap, .slice sl2 pn cap2, .int .i64 top, .slice sl3 n cap3, .int .i64 (bud : Nat), .int .i64 0, .bool false] 136)) (.cells #[] 34))
    clear SK1 FR
    go_wp2_with fail
    generalize (w1.alloc (.cells #[.slice sl rn cap, .slice sl2 pn cap2, .int .i64 top, .slice sl3 n cap3, .int .i64 (bud : Nat), .int .i64 0, .bool false] 136)).alloc (.cells #[] 34) = w2 at *
    refine F2.out.mono ?_
    rintro e w3 ⟨v3, ok3, rfl, pf3, on3⟩
    have B3 := Lib.hid (Onl.below B2.out (Nat.le_refl _) on3)
    have D3 := Lib.hid (bT D1.out B3.out)
    obtain ⟨rl, r0, r1, r2, r3, f0, f1, f2, f3⟩ := BoxP.facts (show BoxP w3 (w.heap.size + 1) from (B3.out.block _ hs1).trans X1.out)
    clear on3 F2 B2 X1 t0 t1 tl
    cases R with
    | found p s2 =>
      obtain ⟨rfl, ⟨ps7, pc7, rfl, pn7⟩, sk7⟩ := pf3
      obtain ⟨q0, q1, q2, q3, q4, q5, q6, q7, f5, f6⟩ := sk7.facts
      have P : Hid (Below w.heap.size w (set4 w3 (w.heap.size + 1) (.int .i64 1) (.slice ps7 p.length pc7) (.int .i64 (s2 : Nat)) (.int .i64 0))) := set4_below D3.out (by omega) _ _ _ _
      have Q : Hid (SpR (set4 w3 (w.heap.size + 1) (.int .i64 1) (.slice ps7 p.length pc7) (.int .i64 (s2 : Nat)) (.int .i64 0)) (set4 w3 (w.heap.size + 1) (.int .i64 1) (.slice ps7 p.length pc7) (.int .i64 (s2 : Nat)) (.int .i64 0)).heap.size (.slice ps7 p.length pc7) p) := by
        refine ⟨ps7, pc7, rfl, ?_⟩
        rcases pn7 with h | ⟨c, o, e, pa, hne⟩
        · exact .inl h
        · have bk : (set4 w3 (w.heap.size + 1) (.int .i64 1) (.slice ps7 p.length pc7) (.int .i64 (s2 : Nat)) (.int .i64 0)).heap[c]? = w3.heap[c]? := by
            unfold set4
            rw [Below.heap_setCell _ _ _ _ (by show c ≠ w.heap.size + 1; omega), Below.heap_setCell _ _ _ _ (by show c ≠ w.heap.size + 1; omega), Below.heap_setCell _ _ _ _ (by show c ≠ w.heap.size + 1; omega), Below.heap_setCell _ _ _ _ (by show c ≠ w.heap.size + 1; omega)]
          have sz : (set4 w3 (w.heap.size + 1) (.int .i64 1) (.slice ps7 p.length pc7) (.int .i64 (s2 : Nat)) (.int .i64 0)).heap.size = w3.heap.size := by simp [set4, World.setCell]
          exact .inr ⟨c, o, e, ⟨by rw [sz]; exact pa.lt, fun i hi => ⟨(World.cell?_of_block (w := w3) bk).trans (pa.cell i hi).1, (World.cell?_of_block (w := w3) bk).trans (pa.cell i hi).2⟩⟩, by rw [sz]; exact pa.lt⟩
      unfold set4 at P Q
      clear sk7 pn7
      go_wp2
      refine bodyPost_ret (v := PV 1 (.slice ps7 p.length pc7) (s2 : Nat) 0) (by simp [results, Try.results45, go_sem, r0, r1, r2, r3]) rfl ⟨_, rfl, Q.out, P.out⟩
    | none s2 =>
      obtain ⟨rfl, sk7⟩ := pf3
      obtain ⟨q0, q1, q2, q3, q4, q5, q6, q7, f5, f6⟩ := sk7.facts
      have P : Hid (Below w.heap.size w (set4 w3 (w.heap.size + 1) (.int .i64 2) (.slice none 0 0) (.int .i64 (s2 : Nat)) (.int .i64 0))) := set4_below D3.out (by omega) _ _ _ _
      unfold set4 at P
      clear sk7
      go_wp2
      refine bodyPost_ret (v := PV 2 (.slice none 0 0) (s2 : Nat) 0) (by simp [results, Try.results45, go_sem, r0, r1, r2, r3]) rfl ⟨_, rfl, SpR.nil _ _, P.out⟩
    | out s2 =>
      obtain ⟨rfl, sk7⟩ := pf3
      obtain ⟨q0, q1, q2, q3, q4, q5, q6, q7, f5, f6⟩ := sk7.facts
      have P : Hid (Below w.heap.size w (set4 w3 (w.heap.size + 1) (.int .i64 3) (.slice none 0 0) (.int .i64 (s2 : Nat)) (.int .i64 0))) := set4_below D3.out (by omega) _ _ _ _
      unfold set4 at P
      clear sk7
      go_wp2
      refine bodyPost_ret (v := PV 3 (.slice none 0 0) (s2 : Nat) 0) (by simp [results, Try.results45, go_sem, r0, r1, r2, r3]) rfl ⟨_, rfl, SpR.nil _ _, P.out⟩
  · obtain ⟨pe1, pe2, pe3, pe4⟩ := pf_no top hok
    rw [if_neg h4] at pe4
    rw [pe1, pe2, pe3, pe4]
    have HOK : Hid (B (IdsR rs ps ids) = false ∨ (B (IdsR rs ps ids) = true ∧ (bd < 0 ∨ (¬ bd < 0 ∧ (2000 : Int) < bd)))) := by
      by_cases h : IdsR rs ps ids
      · refine .inr ⟨B_yes h, ?_⟩
        by_cases h0 : bd < 0
        · exact .inl h0
        · by_cases h1 : (2000 : Int) < bd
          · exact .inr ⟨h0, h1⟩
          · exact absurd ⟨h, by omega, by omega⟩ hok
      · exact .inl (B_no h)
    clear pe1 pe2 pe3 pe4 hz hp hi hok HT
    generalize B (IdsR rs ps ids) = bi at *
    generalize rs.length = rn at *
    generalize ps.length = pn at *
    generalize ids.length = n at *
    have FIN : Hid (∀ w1, Below ((w.alloc (.cells #[.slice sl rn cap, .slice sl2 pn cap2] 26)).alloc (.cells #[.int .i64 0, .slice none 0 0, .int .i64 0, .int .i64 0] 70)).heap.size ((w.alloc (.cells #[.slice sl rn cap, .slice sl2 pn cap2] 26)).alloc (.cells #[.int .i64 0, .slice none 0 0, .int .i64 0, .int .i64 0] 70)) w1 → BoxP w1 (w.heap.size + 1) ∧ Below w.heap.size w (set4 w1 (w.heap.size + 1) (.int .i64 0) (.slice none 0 0) (.int .i64 0) (.int .i64 1))) := fun w1 b1 => ⟨(b1.block _ X0.out.facts.1).trans X0.out, set4_below (bT B0.out b1) (by omega) _ _ _ _⟩
    rcases HOK.out with rfl | ⟨rfl, hb | ⟨hb, hb2⟩⟩
    all_goals
      go_enter Try.func45, Try.ntmps45
      go_wp2_with fail
      generalize (w.alloc (.cells #[.slice sl rn cap, .slice sl2 pn cap2] 26)).alloc (.cells #[.int .i64 0, .slice none 0 0, .int .i64 0, .int .i64 0] 70) = w0 at *
      refine (E1.out _ B0.out).mono ?_
      rintro e w1 ⟨rfl, b1⟩
      obtain ⟨x1, p1⟩ := FIN.out w1 b1
      have P := Lib.hid p1
      unfold set4 at P
      obtain ⟨rl, r0, r1, r2, r3, f0, f1, f2, f3⟩ := BoxP.facts x1
      clear b1 p1 x1
      go_wp2
      refine bodyPost_ret (v := PV 0 (.slice none 0 0) 0 1) (by simp [results, Try.results45, go_sem, r0, r1, r2, r3]) rfl ⟨_, rfl, SpR.nil _ _, P.out⟩
end Go.Proofs.Ytdmfljejlhlbnaa
namespace Go.Proofs.Ytdmfljejlhlbnaa
open Go.RowKit
set_option linter.unusedVariables false

/-- The first i cells of a row of places hold the marks. -/
def MarkQ (w : World) (b s : Nat) (k : Int) (i : Nat) : Prop := ∃ vs : Array Value, w.heap[b]? = some (.cells vs 34) ∧ vs.size = s ∧ ∀ j, j < i → vs[j]? = some (.int .i64 (k + (j : Int)))
theorem MarkQ.step {w : World} {b s : Nat} {k : Int} {i : Nat} (h : MarkQ w b s k i) (hi : i < s) : MarkQ (w.setCell ⟨b, i, none⟩ (.int .i64 (k + (i : Int)))) b s k (i + 1) := by
  obtain ⟨vs, h1, h2, h3⟩ := h
  refine ⟨_, heap_setCell_same w b i vs 34 _ h1, by simp [h2], fun j hj => ?_⟩
  rw [Array.getElem?_setIfInBounds]
  by_cases e : i = j
  · subst e; simp [h2, hi]
  · rw [if_neg e]; exact h3 j (by omega)
theorem MarkQ.cell {w : World} {b s : Nat} {k : Int} {i : Nat} (h : MarkQ w b s k i) (j : Nat) (hj : j < s) : (∃ v, w.cell? ⟨b, j, none⟩ = some v) ∧ w.frozen? ⟨b, j, none⟩ = false := by
  obtain ⟨vs, h1, h2, h3⟩ := h
  exact ⟨⟨vs[j]'(by omega), by simp [World.cell?, h1, show j < vs.size by omega]⟩, by simp [World.frozen?, h1]⟩
theorem MarkQ.at {w : World} {b s : Nat} {k : Int} {i : Nat} (h : MarkQ w b s k i) (j : Nat) (hj : j < i) : w.cell? ⟨b, j, none⟩ = some (.int .i64 (k + (j : Int))) := by
  obtain ⟨vs, h1, h2, h3⟩ := h
  have := h3 j hj
  simp [World.cell?, h1, this]
theorem MarkQ.lt {w : World} {b s : Nat} {k : Int} {i : Nat} (h : MarkQ w b s k i) : b < w.heap.size := by
  obtain ⟨vs, h1, _⟩ := h
  exact (Array.getElem?_eq_some_iff.1 h1).1

/-- The first k are the same. -/
def SameTo (zs ys : List Int) (k : Nat) : Prop := ∀ i, i < k → zs.getD i 0 = ys.getD i 0
theorem SameTo.step {zs ys : List Int} {k : Nat} (h : SameTo zs ys k) (g : zs.getD k 0 = ys.getD k 0) : SameTo zs ys (k + 1) := fun i hi => by
  by_cases e : i = k
  · subst e; exact g
  · exact h i (by omega)
theorem SameTo.all {zs ys : List Int} {k : Nat} (h : SameTo zs ys k) (hl : zs.length = ys.length) (hk : zs.length ≤ k) : zs = ys := by
  apply List.ext_getElem hl
  intro i h1 h2
  have := h i (by omega)
  simpa [h1, h2] using this

set_option maxRecDepth 100000 in
set_option maxHeartbeats 1000000 in
/-- slices.Equal of numbers. -/
theorem eqz_any (sl : Option Addr) (cap : Nat) (zs : List Int) (sl2 : Option Addr) (cap2 : Nat) (ys : List Int) (w : World) (hn : zs.length ≤ 1048576) (hm : ys.length ≤ 1048576) (hz : Ints w sl zs) (hy : Ints w sl2 ys) :
    Calls Try.prog 94 #[.slice sl zs.length cap, .slice sl2 ys.length cap2] w fun e w' => e = .returned (.bool (B (zs = ys))) ∧ Below w.heap.size w w' := by
  by_cases hl : zs.length = ys.length
  · have YY := Lib.hid (show ∀ k, zs.length ≤ k → SameTo zs ys k → B (zs = ys) = true from fun k hk h => B_yes (h.all hl hk))
    have NN := Lib.hid (show ∀ k, zs.getD k 0 ≠ ys.getD k 0 → B (zs = ys) = false from fun k h => B_no (fun e => h (by rw [e])))
    have HZ := Lib.hid hz
    have HY := Lib.hid hy
    rw [← hl]
    have HLL := Lib.hid hl
    clear hz hy hm hl
    generalize hN : zs.length = n at *
    have HN := Lib.hid hN
    clear hN
    go_enter Try.func94, Try.ntmps94
    go_wp2
    go_loopw [13] (fun i wr => ∃ k : Nat, i = .int .i64 k ∧ k ≤ n ∧ Hid (SameTo zs ys k) ∧ Hid (Below w.heap.size w wr)) (fun i _ => n - (intOf i).toNat)
    case atStart => exact ⟨0, rfl, Nat.zero_le _, fun i h => absurd h (Nat.not_lt_zero _), Below.refl _ _⟩
    case round =>
      obtain ⟨k, rfl, hk, H1, H2⟩ := hrel
      have hk0 : (0 : Int) ≤ (k : Int) := by omega
      by_cases h1 : k < n
      · have h1' : (k : Int) < (n : Int) := by omega
        have hlt : k < zs.length := by rw [HN.out]; exact h1
        have hlt2 : k < ys.length := by rw [← HLL.out]; exact h1
        obtain ⟨c, o, rfl, ZI⟩ : ∃ c o, sl = some ⟨c, o, none⟩ ∧ IntsAt w c o zs := by
          rcases HZ.out with e | h
          · rw [e] at hlt; simp at hlt
          · exact h
        obtain ⟨c2, o2, rfl, YI⟩ : ∃ c o, sl2 = some ⟨c, o, none⟩ ∧ IntsAt w c o ys := by
          rcases HY.out with e | h
          · rw [e] at hlt2; simp at hlt2
          · exact h
        have hc := (H2.out.cell (p := ⟨c, o + k, none⟩) ZI.1).trans (ZI.2 k hlt)
        have hd := (H2.out.cell (p := ⟨c2, o2 + k, none⟩) YI.1).trans (YI.2 k hlt2)
        by_cases e : zs.getD k 0 = ys.getD k 0
        · have e' : (zs.getD k 0 != ys.getD k 0) = false := by rw [e]; simp
          have HS := Lib.hid (H1.out.step e)
          clear hlt hlt2 ZI YI e H1
          generalize zs.getD k 0 = z at *
          generalize ys.getD k 0 = y at *
          go_wp2
          go_quiet (fail)
          go_wp2
          go_roundw
          case rel => exact ⟨k + 1, by go_num, by omega, HS, below_drewN H2.out _⟩
          case measure => simp [intOf]; omega
        · have e' : (zs.getD k 0 != ys.getD k 0) = true := by simpa using e
          have HF := Lib.hid (NN.out k e)
          clear hlt hlt2 ZI YI e H1
          generalize zs.getD k 0 = z at *
          generalize ys.getD k 0 = y at *
          go_wp2
          go_quiet (fail)
          go_wp2
          go_ret
          exact ⟨by rw [HF.out]; rfl, below_drewN H2.out _⟩
      · have h1' : ¬ (k : Int) < (n : Int) := by omega
        have HE := Lib.hid (YY.out k (by omega) H1.out)
        go_wp2
        go_ret
        exact ⟨by rw [HE.out]; rfl, H2.out⟩
  · have hl' : ((zs.length : Int) != (ys.length : Int)) = true := by simpa using (show ¬ (zs.length : Int) = (ys.length : Int) by omega)
    rw [B_no (fun e => hl (by rw [e]))]
    clear hz hy hl
    generalize zs.length = n at *
    generalize ys.length = m at *
    go_enter Try.func94, Try.ntmps94
    go_wp2
    go_ret
    exact ⟨rfl, Below.refl _ _⟩

end Go.Proofs.Ytdmfljejlhlbnaa
namespace Go.Proofs.Ytdmfljejlhlbnaa
open Go.RowKit
set_option linter.unusedVariables false

/-- The places that the trues stand for. -/
def poP (qs : List LPl) (ts : List Int) : List LPl := ts.map fun v => qs.getD (v - 1).toNat (0, 0)
def PoOK (rs : List LSt) (ps : List LPr) (top : Int) (ids ts : List Int) : Prop := ts.length ≤ 400 ∧ IdsR rs ps ids ∧ InRise 1 (plF rs top ids).length ts ∧ pidsL (poP (plF rs top ids) ts) = ids
/-- What PlanOf answers. -/
noncomputable def poA (rs : List LSt) (ps : List LPr) (top : Int) (ids ts : List Int) : List LPl := if B (PoOK rs ps top ids ts) = true then poP (plF rs top ids) ts else []
theorem poA_no {rs : List LSt} {ps : List LPr} {top : Int} {ids ts : List Int} (h : ¬ PoOK rs ps top ids ts) : poA rs ps top ids ts = [] := by unfold poA; rw [B_no h]; rfl
theorem poA_yes {rs : List LSt} {ps : List LPr} {top : Int} {ids ts : List Int} (h : PoOK rs ps top ids ts) : poA rs ps top ids ts = poP (plF rs top ids) ts := by unfold poA; rw [B_yes h]; rfl
theorem poP_step (qs : List LPl) (ts : List Int) (k : Nat) (h : k < ts.length) : poP qs (ts.take (k + 1)) = poP qs (ts.take k) ++ [qs.getD (ts.getD k 0 - 1).toNat (0, 0)] := by
  unfold poP
  rw [List.take_succ_eq_append_getElem h, List.map_append]
  simp [h]
theorem pls_of {w : World} {sl : Option Addr} {pl : List LPl} {B : Nat} (h : pl = [] ∨ ∃ c, sl = some ⟨c, 0, none⟩ ∧ PlAt w c 0 pl ∧ B ≤ c) : Pls w sl pl := by
  rcases h with h | ⟨c, e, p, _⟩
  · exact .inl h
  · exact .inr ⟨c, 0, e, p⟩

set_option maxRecDepth 100000 in
set_option maxHeartbeats 4000000 in
/-- impl.PlanOf. -/
theorem ipo_any (sl : Option Addr) (cap : Nat) (sl2 : Option Addr) (cap2 : Nat) (sl3 : Option Addr) (cap3 : Nat) (sl4 : Option Addr) (cap4 : Nat) (rs : List LSt) (ps : List LPr) (ids ts : List Int) (top : Int) (w : World) (hn : rs.length ≤ 1048576) (hl : ids.length ≤ maxLen) (hm : ts.length ≤ maxLen) (hz : Sts w sl rs) (hp : Prs w sl2 ps) (hw : ∀ p ∈ ps, WfP p) (hi : Ints w sl3 ids) (ht : Ints w sl4 ts) :
    Calls Try.prog 32 #[TV sl rs.length cap sl2 ps.length cap2, .int .i64 top, .slice sl3 ids.length cap3, .slice sl4 ts.length cap4] w fun e w' => ∃ v, e = .returned v ∧ w'.ownsRow w.heap.size 34 2 v (poA rs ps top ids ts).length (enCells (poA rs ps top ids ts)) ∧ Below w.heap.size w w' := by
  obtain ⟨i3, hi3, hd0, hd1, hd2⟩ := info_parts info34
  have HT := Lib.hid (TabAt.new w sl rs.length cap sl2 ps.length cap2)
  have B0 := Lib.hid (bA0 w (.cells #[.slice sl rs.length cap, .slice sl2 ps.length cap2] 26))
  have E1 : Hid (∀ W, Below w.heap.size w W → Calls Try.prog 77 #[TV sl rs.length cap sl2 ps.length cap2, .slice sl3 ids.length cap3] W fun e w' => e = .returned (.bool (B (IdsR rs ps ids))) ∧ Below W.heap.size W w') := fun W hW => iir_any sl cap sl2 cap2 sl3 cap3 rs ps ids W hn hl (hz.below hW) (hp.below hW) hw (hi.below hW)
  have E2 : Hid (∀ q : Int, ∀ W, Below w.heap.size w W → Calls Try.prog 92 #[.slice sl4 ts.length cap4, .int .i64 1, .int .i64 q] W fun e w' => e = .returned (.bool (B (InRise 1 q ts))) ∧ Below W.heap.size W w') := fun q W hW => rw_any 1 q sl4 cap4 ts W hm (ht.below hW)
  unfold maxLen at hl hm
  by_cases h4 : 400 < ts.length
  · have h4' : (400 : Int) < (ts.length : Int) := by omega
    rw [poA_no (fun g => by have := g.1; omega)]
    clear hz hp hw hi ht E1 E2 HT
    generalize rs.length = rn at *
    generalize ps.length = pn at *
    generalize ids.length = n at *
    generalize ts.length = m at *
    go_enter Try.func32, Try.ntmps32
    go_wp2
    go_ret
    exact ⟨_, rfl, ⟨rfl, .inl ⟨rfl, rfl⟩⟩, B0.out⟩
  have h4' : ¬ (400 : Int) < (ts.length : Int) := by omega
  cases hb : B (IdsR rs ps ids) with
  | false =>
    rw [poA_no (fun g => B_false hb g.2.1)]
    rw [hb] at E1
    clear hb hz hp hw hi ht E2 HT
    generalize rs.length = rn at *
    generalize ps.length = pn at *
    generalize ids.length = n at *
    generalize ts.length = m at *
    go_enter Try.func32, Try.ntmps32
    go_wp2_with fail
    refine (E1.out _ B0.out).mono ?_
    rintro e w1 ⟨rfl, b1⟩
    have D1 := Lib.hid (bT B0.out b1)
    clear b1 E1
    go_wp2
    go_ret
    exact ⟨_, rfl, ⟨rfl, .inl ⟨rfl, rfl⟩⟩, D1.out⟩
  | true =>
    rw [hb] at E1
    have IR := B_true hb
    have hpl : (plF rs top ids).length ≤ 38400 := by
      have := plF_le top ids IR.2.1
      have := IR.1
      omega
    have E3 : Hid (∀ W, Below w.heap.size w W → Calls Try.prog 82 #[TV sl rs.length cap sl2 ps.length cap2, .int .i64 top, .slice sl3 ids.length cap3] W fun e w' => ∃ b rows, e = .returned (.slice (some ⟨b, 0, none⟩) ids.length ids.length) ∧ rows.map (fun r => r.2) = ids.map (chF rs top) ∧ Rws w' (some ⟨b, 0, none⟩) rows ∧ Below W.heap.size W w') := fun W hW => ch_any sl cap sl2 cap2 sl3 cap3 rs ps top ids W IR.1 (hz.below hW) IR.2.1 (hi.below hW)
    have E4 : Hid (∀ b rows W, rows.map (fun r => r.2) = ids.map (chF rs top) → Rws W (some ⟨b, 0, none⟩) rows → Calls Try.prog 81 #[.slice (some ⟨b, 0, none⟩) ids.length ids.length] W fun e w' => ∃ s c, e = .returned (.slice s (plF rs top ids).length c) ∧ (plF rs top ids = [] ∨ ∃ c, s = some ⟨c, 0, none⟩ ∧ PlAt w' c 0 (plF rs top ids) ∧ W.heap.size ≤ c) ∧ Below W.heap.size W w') := fun b rows W er r => by
      have hl' : rows.length = ids.length := by have := congrArg List.length er; simpa using this
      have := cat_any (some ⟨b, 0, none⟩) ids.length rows W (by rw [hl']; have := IR.1; omega) (by rw [flatR_map er]; omega) r
      rw [hl', flatR_map er] at this
      refine this.mono ?_
      rintro e w' ⟨v, rfl, o, bl⟩
      obtain ⟨s, c, rfl, h⟩ := own_pls o
      exact ⟨s, c, rfl, h, bl⟩
    have h400 := IR.1
    have E5 : Hid (∀ zs s c W, Below w.heap.size w W → zs.length ≤ 400 → Ints W s zs → Calls Try.prog 94 #[.slice s zs.length c, .slice sl3 ids.length cap3] W fun e w' => e = .returned (.bool (B (zs = ids))) ∧ Below W.heap.size W w') := fun zs s c W hW h i => eqz_any s c zs sl3 cap3 ids W (by omega) (by omega) i (hi.below hW)
    cases hc : B (InRise 1 (plF rs top ids).length ts) with
    | false =>
      rw [poA_no (fun g => B_false hc g.2.2.1)]
      have E2' : Hid (∀ W, Below w.heap.size w W → Calls Try.prog 92 #[.slice sl4 ts.length cap4, .int .i64 1, .int .i64 ((plF rs top ids).length : Int)] W fun e w' => e = .returned (.bool false) ∧ Below W.heap.size W w') := fun W hW => by
        have := E2.out ((plF rs top ids).length : Int) W hW
        rwa [hc] at this
      clear hb hc hz hp hw hi ht IR E2 E5
      generalize plF rs top ids = qs at *
      generalize rs.length = rn at *
      generalize ps.length = pn at *
      generalize ids.length = n at *
      generalize ts.length = m at *
      generalize qs.length = q at *
      go_enter Try.func32, Try.ntmps32
      go_wp2_with fail
      refine (E1.out _ B0.out).mono ?_
      rintro e w1 ⟨rfl, b1⟩
      have D1 := Lib.hid (bT B0.out b1)
      have TA := HT.out.below b1
      obtain ⟨t0, t1⟩ := TA.cells
      have tl := TA.lt
      clear b1 E1 TA
      go_wp2_with fail
      refine (E3.out _ D1.out).mono ?_
      rintro e w2 ⟨b4, rows, rfl, er, r4, bl4⟩
      have D2 := Lib.hid (bT D1.out bl4)
      have T4 := Lib.hid (E4.out b4 rows _ er r4)
      clear bl4 er r4 E3 t0 t1 tl
      go_wp2_with fail
      refine T4.out.mono ?_
      rintro e w5 ⟨s5, c5, rfl, -, b5⟩
      have D5 := Lib.hid (bT D2.out b5)
      clear b5 T4
      go_wp2_with fail
      refine (E2'.out _ D5.out).mono ?_
      rintro e w6 ⟨rfl, b6⟩
      have D6 := Lib.hid (bT D5.out b6)
      clear b6 E2'
      go_wp2
      go_ret
      exact ⟨_, rfl, ⟨rfl, .inl ⟨rfl, rfl⟩⟩, D6.out⟩
    | true =>
      have IT := Lib.hid (B_true hc)
      have E2' : Hid (∀ W, Below w.heap.size w W → Calls Try.prog 92 #[.slice sl4 ts.length cap4, .int .i64 1, .int .i64 ((plF rs top ids).length : Int)] W fun e w' => e = .returned (.bool true) ∧ Below W.heap.size W w') := fun W hW => by
        have := E2.out ((plF rs top ids).length : Int) W hW
        rwa [hc] at this
      have YY := Lib.hid (show pidsL (poP (plF rs top ids) ts) = ids → poA rs ps top ids ts = poP (plF rs top ids) ts from fun e => poA_yes ⟨by omega, IR, IT.out, e⟩)
      have NN := Lib.hid (show ¬ pidsL (poP (plF rs top ids) ts) = ids → poA rs ps top ids ts = [] from fun e => poA_no (fun g => e g.2.2.2))
      have HTS := Lib.hid ht
      clear hb hc hz hp hw hi ht IR E2
      generalize poA rs ps top ids ts = ans at *
      generalize plF rs top ids = qs at *
      generalize rs.length = rn at *
      generalize ps.length = pn at *
      generalize ids.length = n at *
      generalize hM : ts.length = m at *
      have HM := Lib.hid hM
      clear hM
      generalize hQ : qs.length = q at *
      have HQ := Lib.hid hQ
      clear hQ
      go_enter Try.func32, Try.ntmps32
      go_wp2_with fail
      refine (E1.out _ B0.out).mono ?_
      rintro e w1 ⟨rfl, b1⟩
      have D1 := Lib.hid (bT B0.out b1)
      have TA := HT.out.below b1
      obtain ⟨t0, t1⟩ := TA.cells
      have tl := TA.lt
      clear b1 E1 TA
      go_wp2_with fail
      refine (E3.out _ D1.out).mono ?_
      rintro e w2 ⟨b4, rows, rfl, er, r4, bl4⟩
      have D2 := Lib.hid (bT D1.out bl4)
      have T4 := Lib.hid (E4.out b4 rows _ er r4)
      clear bl4 er r4 E3 t0 t1 tl
      go_wp2_with fail
      refine T4.out.mono ?_
      rintro e w5 ⟨s5, c5, rfl, z5, b5⟩
      have D5 := Lib.hid (bT D2.out b5)
      have Z5 := Lib.hid (pls_of z5)
      clear b5 T4 z5
      go_wp2_with fail
      refine (E2'.out _ D5.out).mono ?_
      rintro e w6 ⟨rfl, b6⟩
      have D6 := Lib.hid (bT D5.out b6)
      have Z6 := Lib.hid (Z5.out.below b6)
      clear b6 E2' Z5 D5 D2 D1 E4
      go_wp2
      go_loopw [10, 34] (fun v i wr => ∃ (k : Nat) (cu : List LPl), i = .int .i64 k ∧ k ≤ m ∧ cu.length ≤ k ∧ Hid (cu = poP qs (ts.take k)) ∧ Hid (wr.ownsRow w6.heap.size 34 2 v cu.length (enCells cu)) ∧ Hid (Below w6.heap.size w6 wr)) (fun _ i _ => m - (intOf i).toNat)
      case atStart => exact ⟨0, [], rfl, Nat.zero_le _, Nat.zero_le _, rfl, ⟨rfl, .inl ⟨rfl, rfl⟩⟩, Below.refl _ _⟩
      case round =>
        obtain ⟨k, cu, rfl, hk, hcl, HC, OR, HB⟩ := hrel
        have hk0 : (0 : Int) ≤ (k : Int) := by omega
        have DW := Lib.hid (bT D6.out HB.out)
        by_cases g1 : k < m
        · have g1' : (k : Int) < (m : Int) := by omega
          have hlt : k < ts.length := by rw [HM.out]; exact g1
          obtain ⟨g, o, rfl, TI⟩ : ∃ g o, sl4 = some ⟨g, o, none⟩ ∧ IntsAt w g o ts := by
            rcases HTS.out with e | h
            · rw [e] at hlt; simp at hlt
            · exact h
          have hc := (DW.out.cell (p := ⟨g, o + k, none⟩) TI.1).trans (TI.2 k hlt)
          have hzb := (IT.out k hlt).1
          have PS := Lib.hid (poP_step qs ts k hlt)
          clear hlt TI
          generalize ts.getD k 0 = z at *
          obtain ⟨z1, z2⟩ := hzb
          obtain ⟨j, rfl⟩ : ∃ j : Nat, z = (j : Int) + 1 := ⟨(z - 1).toNat, by omega⟩
          have hjq : j < q := by omega
          have hjn : ((j : Int) + 1 - 1).toNat = j := by omega
          have hlt2 : j < qs.length := by rw [HQ.out]; exact hjq
          obtain ⟨c, o2, rfl, PA⟩ : ∃ c o, s5 = some ⟨c, o, none⟩ ∧ PlAt w6 c o qs := by
            rcases Z6.out with e | h
            · rw [e] at hlt2; simp at hlt2
            · exact h
          have PB := PA.below HB.out
          obtain ⟨d0, d1⟩ := PB.cell j hlt2
          have cl := PB.lt
          obtain ⟨a, b, hpj⟩ : ∃ a b, qs[j] = (a, b) := ⟨_, _, rfl⟩
          rw [hpj] at d0 d1
          dsimp only at d0 d1
          have CS := Lib.hid (show cu ++ [(a, b)] = poP qs (ts.take (k + 1)) by
            rw [PS.out, ← HC.out, hjn, ← hpj]
            simp [hlt2])
          have EV := Lib.hid (show enCells cu ++ [.int .i64 a, .int .i64 b] = enCells (cu ++ [(a, b)]) from (enCells_add cu (a, b)).symm)
          have hjz : (0 : Int) ≤ (j : Int) := by omega
          have hjz2 : (j : Int) < (q : Int) := by omega
          have hsw := HB.out.size
          clear hlt2 PA PB hpj PS HC hjn z1 z2
          go_wp2_with (first | (at_builtin; refine wpList_append_lies _ rfl (.tmp 38) (.tmp 44) 27 rfl w6.heap.size 34 i3 (.agg #[.int .i64 0, .int .i64 0]) 2 16 Try.underlying27 hi3 hd0 hd1 hd2 rfl (by decide) _ _ _ rfl (OR.out.alloc _) ⟨wr.heap.size, 0, none⟩ 1 1 [.int .i64 a, .int .i64 b] rfl rfl (cell_two_new _ _ _ _) (by intro u hu; simp at hu; rcases hu with rfl | rfl <;> rfl) (by decide) (by unfold maxLen; omega) (by omega) (by simp; omega) (wr.heap.size + 1) (by simp) ?_))
          intro g9 cap9 w9 own9 grow9 hg9 hlt9
          have B9 := Lib.hid ((bA HB.out (.cells #[.int .i64 a, .int .i64 b] 34)).grown grow9 (by simp; omega) (fun j hj => (OR.out.lt j hj).1))
          rw [EV.out] at own9
          have N9 : Hid (w9.ownsRow w6.heap.size 34 2 (.slice (some ⟨g9, 0, none⟩) (cu.length + 1) cap9) (cu ++ [(a, b)]).length (enCells (cu ++ [(a, b)]))) := by
            rw [List.length_append]; exact own9
          have LL := Lib.hid (show (cu ++ [(a, b)]).length ≤ k + 1 by rw [List.length_append]; simp; omega)
          clear own9 grow9 hg9 hlt9 OR HB EV
          go_wp2
          go_roundw
          case rel => exact ⟨k + 1, cu ++ [(a, b)], by go_num, by omega, LL.out, CS, N9, B9⟩
          case measure => simp [intOf]; omega
        · have g1' : ¬ (k : Int) < (m : Int) := by omega
          have CE := Lib.hid (show cu = poP qs ts by rw [HC.out, List.take_of_length_le (by rw [HM.out]; omega)])
          have OF := Lib.hid (own_mono OR.out D6.out.size)
          obtain ⟨sv, cv, rfl, pv⟩ := own_pls OR.out
          have E6 := Lib.hid (ipi_any sv cv cu wr (by unfold maxLen; omega) (pls_of pv))
          rw [pidsA_eq (show cu.length ≤ 400 by omega)] at E6
          have L6 := Lib.hid (show (pidsL cu).length ≤ 400 by rw [pidsL_len]; omega)
          have YZ := Lib.hid (show pidsL cu = ids → ans = cu from fun e => by rw [CE.out]; rw [CE.out] at e; exact YY.out e)
          have NZ := Lib.hid (show ¬ pidsL cu = ids → ans = [] from fun e => by rw [CE.out] at e; exact NN.out e)
          clear HC OR CE YY NN pv
          go_wp2_with fail
          refine E6.out.mono ?_
          rintro e w7 ⟨v7, rfl, o7, b7⟩
          obtain ⟨s7, c7, rfl, i7⟩ := own_ints o7
          have D7 := Lib.hid (bT DW.out b7)
          have OF7 := Lib.hid (own_below OF.out b7)
          have T8 := Lib.hid (E5.out _ s7 c7 w7 D7.out L6.out i7)
          clear o7 b7 i7 E6 OF
          cases hbb : B (pidsL cu = ids) with
          | true =>
            rw [hbb] at T8
            have AN := Lib.hid (YZ.out (B_true hbb))
            clear hbb YZ NZ
            generalize (pidsL cu).length = idn at *
            go_wp2_with fail
            refine T8.out.mono ?_
            rintro e w8 ⟨rfl, b8⟩
            have D8 := Lib.hid (bT D7.out b8)
            have OF8 := Lib.hid (own_below OF7.out b8)
            rw [← AN.out] at OF8
            clear b8 T8
            go_wp2
            go_ret
            exact ⟨_, rfl, by rw [AN.out] at OF8 ⊢; exact OF8.out, D8.out⟩
          | false =>
            rw [hbb] at T8
            have AN := Lib.hid (NZ.out (B_false hbb))
            clear hbb YZ NZ
            generalize (pidsL cu).length = idn at *
            go_wp2_with fail
            refine T8.out.mono ?_
            rintro e w8 ⟨rfl, b8⟩
            have D8 := Lib.hid (bT D7.out b8)
            clear b8 T8
            go_wp2
            go_ret
            exact ⟨_, rfl, by rw [AN.out]; exact ⟨rfl, .inl ⟨rfl, rfl⟩⟩, D8.out⟩

end Go.Proofs.Ytdmfljejlhlbnaa
namespace Go.Proofs.Ytdmfljejlhlbnaa
open Go.RowKit
set_option linter.unusedVariables false

theorem RowZ.kept {w w' : World} {g : Nat} {zs : List Int} (h : RowZ w g zs) (e : w'.heap[g]? = w.heap[g]?) : RowZ w' g zs := e.trans h
end Go.Proofs.Ytdmfljejlhlbnaa
namespace Go.Proofs.Ytdmfljejlhlbnaa
open Go.RowKit
set_option linter.unusedVariables false

/-- A box with an answer. -/
def BoxQ (w : World) (b : Nat) (x0 : Int) (v : Value) (x2 x3 : Int) : Prop := w.heap[b]? = some (.cells #[.int .i64 x0, v, .int .i64 x2, .int .i64 x3] 70)
theorem BoxQ.facts {w : World} {b : Nat} {x0 x2 x3 : Int} {v : Value} (h : BoxQ w b x0 v x2 x3) : b < w.heap.size ∧ w.cell? ⟨b, 0, none⟩ = some (.int .i64 x0) ∧ w.cell? ⟨b, 1, none⟩ = some v ∧ w.cell? ⟨b, 2, none⟩ = some (.int .i64 x2) ∧ w.cell? ⟨b, 3, none⟩ = some (.int .i64 x3) := by
  unfold BoxQ at h
  refine ⟨(Array.getElem?_eq_some_iff.1 h).1, ?_, ?_, ?_, ?_⟩ <;> simp [World.cell?, h]
theorem BoxQ.below {w w' : World} {b : Nat} {x0 x2 x3 : Int} {v : Value} (h : BoxQ w b x0 v x2 x3) (hb : Below w.heap.size w w') : BoxQ w' b x0 v x2 x3 := (hb.block b h.facts.1).trans h
theorem BoxQ.grown {w w' : World} {b : Nat} {x0 x2 x3 : Int} {v : Value} (h : BoxQ w b x0 v x2 x3) {C n : Nat} {u : Value} {xs : List Value} (o : w.ownsRow C 34 2 u n xs) (g : w.grownBy w' u.ownBlock) : BoxQ w' b x0 v x2 x3 := by
  refine (g.block b h.facts.1 fun e => ?_).trans h
  obtain ⟨cur, hk⟩ := own_kind o e.symm
  have h2 : w.heap[b]? = some (.cells #[.int .i64 x0, v, .int .i64 x2, .int .i64 x3] 70) := h
  rw [h2] at hk
  simp at hk
/-- An owned row of cells of places. -/
def OwP (w : World) (B : Nat) (v : Value) (n : Nat) (xs : List Value) : Prop := w.ownsRow B 34 2 v n xs
theorem OwP.below {w w' : World} {B : Nat} {v : Value} {n : Nat} {xs : List Value} (h : OwP w B v n xs) (hb : Below w.heap.size w w') : OwP w' B v n xs := own_below h hb
theorem OwP.up {X Y B : Nat} {w w' : World} {v : Value} {n : Nat} {xs : List Value} (h : OwP w B v n xs) (hb : Btw X Y w w') (hY : Y ≤ B) : OwP w' B v n xs := own_btw h hb (fun j hj => .inr (Nat.le_trans hY (World.ownsRow.lt h j hj).1))
theorem pfP_len (rs : List LSt) (ps : List LPr) (top : Int) (ids : List Int) (bd : Int) : (pfP rs ps top ids bd).length ≤ 400 := by
  unfold pfP
  by_cases h : PfOk rs ps ids bd
  · rw [B_yes h, if_pos rfl]
    have hl := seek_len (fitB ps) bd.toNat (ids.map (chF rs top)) [] 0
    have h4 := h.1.1
    unfold pfS
    cases hr : seek (fitB ps) bd.toNat (ids.map (chF rs top)) [] 0 with
    | found p s =>
      have := hl p s hr
      simp at this
      show p.length ≤ 400
      omega
    | none s => exact Nat.zero_le _
    | out s => exact Nat.zero_le _
  · rw [B_no h]; exact Nat.zero_le _
end Go.Proofs.Ytdmfljejlhlbnaa
namespace Go.Proofs.Ytdmfljejlhlbnaa
open Go.RowKit
set_option linter.unusedVariables false

theorem own_cap6 {w : World} {B : Nat} {e : TypeId} {m : Nat} {sl : Option Addr} {n cap : Nat} {k : Nat} {xs : List Value} (h : w.ownsRow B e m (.slice sl n cap) k xs) : k ≤ cap := by
  rcases h.2 with ⟨_, h0⟩ | ⟨g, cp, cur, hv, _, _, h5, _⟩
  · rw [h0]; exact Nat.zero_le _
  · cases hv; exact h5
/-- Places put behind places: both ways of it. -/
theorem appP {w : World} {B : Nat} {v : Value} {ks : List LPl} (h : w.ownsRow B 34 2 v ks.length (enCells ks)) {s : Option Addr} {r : List LPl} (k : Nat) (hi : Pls w s r) (hB : B ≤ w.heap.size) (hl : ks.length + r.length ≤ 10000000) :
    ∃ v9 w9, (∀ ty, (Builtin.append_ #[27, 27] ty #[v, .slice s r.length k]).run Try.prog w = .ok v9 w9) ∧ w9.ownsRow B 34 2 v9 (ks ++ r).length (enCells (ks ++ r)) ∧ w.grownBy w9 v.ownBlock ∧ ∀ j, v.ownBlock = some j → B ≤ j := by
  obtain ⟨i3, hi3, hd0, hd1, hd2⟩ := info_parts info34
  have hlo : ∀ j, v.ownBlock = some j → B ≤ j := fun j hj => (h.lt j hj).1
  obtain ⟨sl, cap, rfl⟩ := own_v h
  by_cases he : r = []
  · subst he
    exact ⟨_, w, fun ty => app_none27 w ty sl ks.length cap (own_cap6 h) s k, by rw [List.append_nil]; exact h, ⟨rfl, rfl, rfl, Nat.le_refl _, fun _ _ _ => rfl⟩, hlo⟩
  · rcases hi with hi | ⟨c, o, rfl, hi⟩
    · exact absurd hi he
    · obtain ⟨g, c9, w9, hr, own9, grow9, -, -⟩ := run_append_lies (P := Try.prog) w 27 27 B 34 i3 (.agg #[.int .i64 0, .int .i64 0]) 2 16 Try.underlying27 hi3 hd0 hd1 hd2 rfl (by decide) _ _ _ h ⟨c, o, none⟩ r.length k (enCells r) (enCells_len r) (pl_cells hi) (enCells_one r) (List.length_pos_iff.2 he) (by unfold maxLen; omega) (by omega) hB w.heap.size rfl
      exact ⟨_, w9, fun ty => hr, by rw [List.length_append, enCells_app]; exact own9, grow9, hlo⟩
/-- An empty row of places just made. -/
theorem own_none2 (w : World) : (w.alloc (.cells #[] 34)).ownsRow w.heap.size 34 2 (.slice (some ⟨w.heap.size, 0, none⟩) 0 0) ([] : List LPl).length (enCells []) :=
  ⟨rfl, .inr ⟨w.heap.size, 0, #[], rfl, Nat.le_refl _, by show (w.heap.push _)[w.heap.size]? = _; simp, Nat.le_refl _, Nat.zero_le _, rfl, rfl⟩⟩

end Go.Proofs.Ytdmfljejlhlbnaa
namespace Go.Proofs.Ytdmfljejlhlbnaa
open Go.RowKit
set_option linter.unusedVariables false

theorem pls_one {w : World} {b : Nat} {x y : Int} (h : w.heap[b]? = some (.cells #[.int .i64 x, .int .i64 y] 34)) : Pls w (some ⟨b, 0, none⟩) [(x, y)] := by
  refine .inr ⟨b, 0, rfl, (Array.getElem?_eq_some_iff.1 h).1, fun i hi => ?_⟩
  obtain rfl : i = 0 := by simp at hi; omega
  constructor <;> simp [World.cell?, h]

end Go.Proofs.Ytdmfljejlhlbnaa
namespace Go.Proofs.Ytdmfljejlhlbnaa
open Go.RowKit
set_option linter.unusedVariables false

/-- A place and its variable. -/
abbrev LNb := LPl × Int
/-- Places numbered behind `last`. -/
def nbF (last : Int) : List LPl → List LNb
  | [] => []
  | x :: r => (x, last + 1) :: nbF (last + 1) r
theorem nbF_len (l : List LPl) : ∀ last, (nbF last l).length = l.length := by
  induction l with
  | nil => intro _; rfl
  | cons x r ih => intro last; simp [nbF, ih]
theorem nbF_append (a b : List LPl) : ∀ last, nbF last (a ++ b) = nbF last a ++ nbF (last + a.length) b := by
  induction a with
  | nil => intro last; simp [nbF]
  | cons x r ih => intro last; simp only [List.cons_append, nbF, ih, List.length_cons]; congr 3; omega
theorem nbF_fst (l : List LPl) : ∀ last, (nbF last l).map (fun e => e.1) = l := by
  induction l with
  | nil => intro _; rfl
  | cons x r ih => intro last; simp [nbF, ih]
theorem nbF_at (l : List LPl) : ∀ (last : Int) (k : Nat) (h : k < l.length), (nbF last l)[k]'(by rw [nbF_len]; exact h) = (l[k], last + k + 1) := by
  induction l with
  | nil => intro _ k h; simp at h
  | cons x r ih =>
    intro last k h
    cases k with
    | zero => simp [nbF]
    | succ k =>
      simp only [nbF, List.getElem_cons_succ]
      rw [ih (last + 1) k (by simpa using h)]
      congr 1; push_cast; omega
/-- Row by row. -/
def nbsF (last : Int) : List (List LPl) → List (List LNb)
  | [] => []
  | d :: r => nbF last d :: nbsF (last + d.length) r
theorem nbsF_len (ds : List (List LPl)) : ∀ last, (nbsF last ds).length = ds.length := by
  induction ds with
  | nil => intro _; rfl
  | cons d r ih => intro last; simp [nbsF, ih]
theorem nbsF_flat (ds : List (List LPl)) : ∀ last, (nbsF last ds).flatten = nbF last ds.flatten := by
  induction ds with
  | nil => intro _; rfl
  | cons d r ih => intro last; simp only [nbsF, List.flatten_cons, ih, nbF_append]
theorem nbsF_append (a b : List (List LPl)) : ∀ last, nbsF last (a ++ b) = nbsF last a ++ nbsF (last + a.flatten.length) b := by
  induction a with
  | nil => intro last; simp [nbsF]
  | cons x r ih => intro last; simp only [List.cons_append, nbsF, ih, List.flatten_cons, List.length_append]; congr 3; omega

/-- Each row is that of its id. -/
def OfIds (ids : List Int) (bs : List (List LNb)) : Prop := bs.length = ids.length ∧ ∀ k (h : k < ids.length) (g : k < bs.length), ∀ e ∈ bs[k], e.1.1 = ids[k]
theorem OfIds.tail {id : Int} {ids : List Int} {b : List LNb} {bs : List (List LNb)} (h : OfIds (id :: ids) (b :: bs)) : OfIds ids bs :=
  ⟨by simpa using h.1, fun k hk hg => h.2 (k + 1) (by simpa using hk) (by simpa using hg)⟩
theorem OfIds.head {id : Int} {ids : List Int} {b : List LNb} {bs : List (List LNb)} (h : OfIds (id :: ids) (b :: bs)) : ∀ e ∈ b, e.1.1 = id := by
  exact h.2 0 (by simp) (by simp)
def ofId (id : Int) (l : List LNb) : List LNb := l.filter fun e => decide (e.1.1 = id)
theorem ofId_append (id : Int) (a b : List LNb) : ofId id (a ++ b) = ofId id a ++ ofId id b := by simp [ofId]
theorem ofId_all {id : Int} {b : List LNb} (h : ∀ e ∈ b, e.1.1 = id) : ofId id b = b := by
  unfold ofId; rw [List.filter_eq_self]; intro e he; simp [h e he]
theorem ofId_none {id x : Int} {b : List LNb} (h : ∀ e ∈ b, e.1.1 = id) (hx : x ≠ id) : ofId x b = [] := by
  unfold ofId; rw [List.filter_eq_nil_iff]; intro e he; rw [h e he]; simp; exact fun e => hx e.symm
theorem ofId_out (x : Int) : ∀ (ids : List Int) (bs : List (List LNb)), OfIds ids bs → x ∉ ids → ofId x bs.flatten = [] := by
  intro ids
  induction ids with
  | nil =>
    intro bs h _
    have := h.1
    rw [List.length_nil] at this
    rw [List.eq_nil_of_length_eq_zero this]; rfl
  | cons id ids ih =>
    intro bs h hx
    cases bs with
    | nil => simp [ofId]
    | cons b bs =>
      simp at hx
      rw [List.flatten_cons, ofId_append, ofId_none h.head hx.1, ih bs h.tail hx.2]; rfl
theorem ofId_in : ∀ (ids : List Int) (bs : List (List LNb)), OfIds ids bs → ids.Nodup → ids.map (fun id => ofId id bs.flatten) = bs := by
  intro ids
  induction ids with
  | nil =>
    intro bs h _
    have := h.1
    rw [List.length_nil] at this
    rw [List.eq_nil_of_length_eq_zero this]; rfl
  | cons id ids ih =>
    intro bs h hn
    cases bs with
    | nil => have := h.1; simp at this
    | cons b bs =>
      have hn2 := List.nodup_cons.1 hn
      rw [List.map_cons, List.flatten_cons, ofId_append, ofId_all h.head, ofId_out id ids bs h.tail hn2.1, List.append_nil]
      congr 1
      rw [← ih bs h.tail hn2.2]
      refine List.map_congr_left fun x hx => ?_
      rw [ih bs h.tail hn2.2, ofId_append, ofId_none h.head (fun e => hn2.1 (e ▸ hx)), List.nil_append]
theorem ofId_at (ids : List Int) (bs : List (List LNb)) (h : OfIds ids bs) (hn : ids.Nodup) (k : Nat) (hk : k < ids.length) (hg : k < bs.length) : ofId ids[k] bs.flatten = bs[k] := by
  have := ofId_in ids bs h hn
  have e : (ids.map (fun id => ofId id bs.flatten))[k]'(by simpa using hk) = bs[k] := by simp only [this]
  simpa using e

/-- No two of a row. -/
def twoF : List Int → List (List Int)
  | [] => []
  | x :: r => r.map (fun y => [-x, -y]) ++ twoF r
/-- No two of one id. -/
def twoS : List LNb → List (List Int)
  | [] => []
  | x :: r => (ofId x.1.1 r).map (fun y => [-x.2, -y.2]) ++ twoS r
theorem twoS_row {id : Int} (rest : List LNb) (hr : ofId id rest = []) : ∀ (b : List LNb), (∀ e ∈ b, e.1.1 = id) → twoS (b ++ rest) = twoF (b.map fun e => e.2) ++ twoS rest := by
  intro b
  induction b with
  | nil => intro _; rfl
  | cons x b ih =>
    intro h
    have hx := h x (by simp)
    have hb : ∀ e ∈ b, e.1.1 = id := fun e he => h e (by simp [he])
    simp only [List.cons_append, twoS, List.map_cons, twoF, ih hb]
    rw [hx, ofId_append, ofId_all hb, hr, List.append_nil, List.map_map, List.append_assoc]
    rfl
theorem twoS_rows : ∀ (ids : List Int) (bs : List (List LNb)), OfIds ids bs → ids.Nodup → twoS bs.flatten = bs.flatMap fun b => twoF (b.map fun e => e.2) := by
  intro ids
  induction ids with
  | nil =>
    intro bs h _
    have := h.1
    rw [List.length_nil] at this
    rw [List.eq_nil_of_length_eq_zero this]; rfl
  | cons id ids ih =>
    intro bs h hn
    cases bs with
    | nil => rfl
    | cons b bs =>
      have hn2 := List.nodup_cons.1 hn
      rw [List.flatten_cons, twoS_row _ (ofId_out id ids bs h.tail hn2.1) b h.head, ih bs h.tail hn2.2]; rfl

/-- Those of two rows that may not stand beside each other. -/
def besF (ps : List LPr) (es bs : List LNb) : List (List Int) := es.flatMap fun x => bs.flatMap fun y => if mayL ps x.1.1 x.1.2 y.1.1 y.1.2 = true then [] else [[-x.2, -y.2]]
/-- One pair's, by the variables. -/
def besS (ps : List LPr) (l : List LNb) (p : LPr) : List (List Int) := l.flatMap fun x => l.flatMap fun y => if x.1.1 = p.1 ∧ y.1.1 = p.2.1 ∧ mayL ps p.1 x.1.2 p.2.1 y.1.2 = false then [[-x.2, -y.2]] else []
theorem flatMap_of (id : Int) (f : LNb → List (List Int)) : ∀ l : List LNb, (l.flatMap fun x => if x.1.1 = id then f x else []) = (ofId id l).flatMap f := by
  intro l
  induction l with
  | nil => rfl
  | cons x r ih =>
    rw [List.flatMap_cons, ih]
    by_cases h : x.1.1 = id
    · rw [if_pos h]; simp [ofId, h]
    · rw [if_neg h]; simp [ofId, h]
theorem flatMap_cong {α β : Type} {f g : α → List β} : ∀ l : List α, (∀ x ∈ l, f x = g x) → l.flatMap f = l.flatMap g := by
  intro l
  induction l with
  | nil => intro _; rfl
  | cons x r ih => intro h; rw [List.flatMap_cons, List.flatMap_cons, h x (by simp), ih (fun y hy => h y (by simp [hy]))]
theorem besS_is (ps : List LPr) (l : List LNb) (p : LPr) : besS ps l p = besF ps (ofId p.1 l) (ofId p.2.1 l) := by
  unfold besS besF
  rw [← flatMap_of p.1 (fun x => (ofId p.2.1 l).flatMap fun y => if mayL ps x.1.1 x.1.2 y.1.1 y.1.2 = true then [] else [[-x.2, -y.2]])]
  refine flatMap_cong l fun x hx => ?_
  clear hx
  by_cases h : x.1.1 = p.1
  · rw [if_pos h, ← flatMap_of p.2.1]
    refine flatMap_cong l fun y _ => ?_
    by_cases g : y.1.1 = p.2.1
    · rw [if_pos g, h, g]
      cases mayL ps p.1 x.1.2 p.2.1 y.1.2 <;> simp
    · rw [if_neg g, if_neg]; exact fun c => g c.2.1
  · rw [if_neg h]
    induction l with
    | nil => rfl
    | cons y r ih => rw [List.flatMap_cons, ih, if_neg (fun c => h c.1)]; rfl
/-- One pair's, by the rows. -/
noncomputable def besI (ps : List LPr) (ids : List Int) (bs : List (List LNb)) (p : LPr) : List (List Int) :=
  if p.1 ∈ ids ∧ p.2.1 ∈ ids then besF ps (bs.getD (ids.idxOf p.1) []) (bs.getD (ids.idxOf p.2.1) []) else []
theorem ofId_mem (ids : List Int) (bs : List (List LNb)) (h : OfIds ids bs) (hn : ids.Nodup) (x : Int) (hx : x ∈ ids) : ofId x bs.flatten = bs.getD (ids.idxOf x) [] := by
  have hk := List.idxOf_lt_length_iff.2 hx
  have hg : ids.idxOf x < bs.length := by rw [h.1]; exact hk
  have := ofId_at ids bs h hn (ids.idxOf x) hk hg
  rw [List.getElem_idxOf] at this
  rw [this]; simp [List.getD, hg]
theorem besI_is (ps : List LPr) (ids : List Int) (bs : List (List LNb)) (h : OfIds ids bs) (hn : ids.Nodup) (p : LPr) : besI ps ids bs p = besS ps bs.flatten p := by
  rw [besS_is]
  unfold besI
  by_cases h1 : p.1 ∈ ids
  · by_cases h2 : p.2.1 ∈ ids
    · rw [if_pos ⟨h1, h2⟩, ofId_mem ids bs h hn _ h1, ofId_mem ids bs h hn _ h2]
    · rw [if_neg (fun c => h2 c.2), ofId_out _ ids bs h h2]
      unfold besF
      induction ofId p.1 bs.flatten with
      | nil => rfl
      | cons x r ih => rw [List.flatMap_cons, ← ih]; rfl
  · rw [if_neg (fun c => h1 c.1), ofId_out _ ids bs h h1]; rfl

/-- The clauses, by the rows. -/
noncomputable def cnfI (ps : List LPr) (ids : List Int) (bs : List (List LNb)) : List (List Int) :=
  bs.map (fun b => b.map fun e => e.2) ++ (bs.flatMap (fun b => twoF (b.map fun e => e.2)) ++ ps.flatMap (besI ps ids bs))
/-- The clauses, by the variables. -/
def cnfS (ps : List LPr) (ids : List Int) (l : List LNb) : List (List Int) :=
  ids.map (fun id => (ofId id l).map fun e => e.2) ++ (twoS l ++ ps.flatMap (besS ps l))
theorem cnf_same (ps : List LPr) (ids : List Int) (bs : List (List LNb)) (h : OfIds ids bs) (hn : ids.Nodup) : cnfI ps ids bs = cnfS ps ids bs.flatten := by
  unfold cnfI cnfS
  rw [twoS_rows ids bs h hn, show besI ps ids bs = besS ps bs.flatten from funext (besI_is ps ids bs h hn)]
  congr 1
  conv => lhs; rw [← ofId_in ids bs h hn]
  rw [List.map_map]
  rfl

/-- The rows of choices. -/
theorem ofIds_ch (rs : List LSt) (top : Int) : ∀ (ids : List Int) (last : Int), OfIds ids (nbsF last (ids.map (chF rs top))) := by
  intro ids
  induction ids with
  | nil => intro last; exact ⟨rfl, fun k h => by simp at h⟩
  | cons id ids ih =>
    intro last
    rw [List.map_cons, nbsF]
    have t := ih (last + (chF rs top id).length)
    refine ⟨by simpa using t.1, fun k hk hg e he => ?_⟩
    cases k with
    | zero =>
      simp only [List.getElem_cons_zero] at he ⊢
      have : e.1 ∈ (nbF last (chF rs top id)).map (fun e => e.1) := List.mem_map.2 ⟨e, he, rfl⟩
      rw [nbF_fst] at this
      unfold chF at this
      obtain ⟨c, _, hc⟩ := List.mem_map.1 this
      rw [← hc]
    | succ k =>
      simp only [List.getElem_cons_succ] at he ⊢
      exact t.2 k (by simpa using hk) (by simpa using hg) e he
theorem cnf_both (rs : List LSt) (ps : List LPr) (top : Int) (ids : List Int) (hn : ids.Nodup) : cnfI ps ids (nbsF 0 (ids.map (chF rs top))) = cnfS ps ids (nbF 0 (plF rs top ids)) := by
  rw [cnf_same ps ids _ (ofIds_ch rs top ids 0) hn, nbsF_flat]
  congr 2
end Go.Proofs.Ytdmfljejlhlbnaa
namespace Go.Proofs.Ytdmfljejlhlbnaa
open Go.RowKit
set_option linter.unusedVariables false

/-- A clause as it lies: its slice, its literals. -/
abbrev LCl := Value × List Int
abbrev CV (vars : Int) (sl : Option Addr) (n cap : Nat) : Value := .agg #[.int .i64 vars, .slice sl n cap]
/-- The slices lie from cell o of block c on. -/
def ClAt (w : World) (c o : Nat) (cs : List LCl) : Prop := c < w.heap.size ∧ ∀ i (h : i < cs.length), w.cell? ⟨c, o + i, none⟩ = some cs[i].1
def ClIn (w : World) (r : LCl) : Prop := ∃ sl cap, r.1 = .slice sl r.2.length cap ∧ Ints w sl r.2 ∧ r.2.length ≤ maxLen
/-- A slice of clauses. -/
structure Cls (w : World) (sl : Option Addr) (cs : List LCl) : Prop where
  row : cs = [] ∨ ∃ c o, sl = some ⟨c, o, none⟩ ∧ ClAt w c o cs
  each : ∀ r ∈ cs, ClIn w r
theorem ClAt.below {w w' : World} {c o : Nat} {cs : List LCl} (h : ClAt w c o cs) (hb : Below w.heap.size w w') : ClAt w' c o cs :=
  ⟨Nat.lt_of_lt_of_le h.1 hb.size, fun i hi => (hb.cell h.1).trans (h.2 i hi)⟩
theorem ClIn.below {w w' : World} {r : LCl} (h : ClIn w r) (hb : Below w.heap.size w w') : ClIn w' r := by
  obtain ⟨sl, cap, e, hi, hl⟩ := h
  exact ⟨sl, cap, e, hi.below hb, hl⟩
theorem Cls.below {w w' : World} {sl : Option Addr} {cs : List LCl} (h : Cls w sl cs) (hb : Below w.heap.size w w') : Cls w' sl cs := by
  refine ⟨?_, fun r hr => (h.each r hr).below hb⟩
  rcases h.row with h | ⟨c, o, e, h⟩
  · exact .inl h
  · exact .inr ⟨c, o, e, h.below hb⟩
theorem Cls.at {w : World} {sl : Option Addr} {cs : List LCl} (h : Cls w sl cs) {k : Nat} (hk : k < cs.length) : ∃ c o, sl = some ⟨c, o, none⟩ ∧ ClAt w c o cs := by
  rcases h.row with e | h
  · rw [e] at hk; simp at hk
  · exact h
/-- The literals alone. -/
def bareC (cs : List LCl) : List (List Int) := cs.map fun r => r.2
theorem bareC_len {a b : List LCl} (h : bareC a = bareC b) : a.length = b.length := by have := congrArg List.length h; simpa [bareC] using this
/-- A row of slices, the first of them written. -/
def RowV (w : World) (b : Nat) (n : Nat) (ts : List Value) : Prop :=
  ∃ vs : Array Value, w.heap[b]? = some (.cells vs 40) ∧ vs.size = n ∧ ∀ i (h : i < ts.length), vs[i]? = some ts[i]
theorem RowV.lt {w : World} {b n : Nat} {ts : List Value} (h : RowV w b n ts) : b < w.heap.size := by
  obtain ⟨vs, h1, _⟩ := h
  exact (Array.getElem?_eq_some_iff.1 h1).1
theorem RowV.below {w w' : World} {b n : Nat} {ts : List Value} (h : RowV w b n ts) (hb : Below w.heap.size w w') : RowV w' b n ts := by
  have hl := h.lt
  obtain ⟨vs, h1, h2, h3⟩ := h
  exact ⟨vs, (hb.block b hl).trans h1, h2, h3⟩
theorem RowV.there {w : World} {b n : Nat} {ts : List Value} (h : RowV w b n ts) (j : Nat) (hj : j < n) : (∃ v, w.cell? ⟨b, j, none⟩ = some v) ∧ w.frozen? ⟨b, j, none⟩ = false := by
  obtain ⟨vs, h1, h2, h3⟩ := h
  exact ⟨⟨vs[j]'(by omega), by simp [World.cell?, h1, show j < vs.size by omega]⟩, by simp [World.frozen?, h1]⟩
theorem RowV.step {w : World} {b n : Nat} {ts : List Value} (h : RowV w b n ts) (hl : ts.length < n) (x : Value) (k : Nat) (hk : k = ts.length) :
    RowV (w.setCell ⟨b, k, none⟩ x) b n (ts ++ [x]) := by
  subst hk
  obtain ⟨vs, h1, h2, h3⟩ := h
  refine ⟨_, heap_setCell_same w b _ vs 40 x h1, by simp [h2], fun i hi => ?_⟩
  simp only [List.length_append, List.length_singleton] at hi
  by_cases e : i < ts.length
  · rw [Array.getElem?_setIfInBounds_ne (by omega), h3 i e, List.getElem_append_left e]
  · have e' : i = ts.length := by omega
    subst e'
    rw [Array.getElem?_setIfInBounds_self_of_lt (by omega)]
    simp
theorem info40 : (Try.prog.info? 40).map (fun i => (i.zero, i.size, i.bytes)) = some (some (.slice none 0 0), 1, 24) := by kernel_rfl
/-- A clause that has memory of its own, not in block b. -/
def ClOut (b : Nat) (w : World) (r : LCl) : Prop := ∃ g, r.1 = .slice (some ⟨g, 0, none⟩) r.2.length r.2.length ∧ Ints w (some ⟨g, 0, none⟩) r.2 ∧ b < g ∧ r.2.length ≤ 1048576
theorem ClOut.below {b : Nat} {w w' : World} {r : LCl} (h : ClOut b w r) (hb : Below w.heap.size w w') : ClOut b w' r := by
  obtain ⟨g, e, hi, hg, hl⟩ := h
  exact ⟨g, e, hi.below hb, hg, hl⟩
theorem ClOut.set {b : Nat} {w : World} {r : LCl} (h : ClOut b w r) {b' : Nat} (hb : b' ≤ b) (i : Nat) (v : Value) : ClOut b (w.setCell ⟨b', i, none⟩ v) r := by
  obtain ⟨g, e, hi, hg, hl⟩ := h
  exact ⟨g, e, hi.set (by omega) i v, hg, hl⟩
theorem ClOut.din {b : Nat} {w : World} {r : LCl} (h : ClOut b w r) : ClIn w r := by
  obtain ⟨g, e, hi, hg, hl⟩ := h
  exact ⟨_, _, e, hi, by unfold maxLen; omega⟩
theorem RowV.cls {w : World} {b n : Nat} {cs : List LCl} (h : RowV w b n (cs.map fun r => r.1)) (hd : ∀ r ∈ cs, ClOut b w r) : Cls w (some ⟨b, 0, none⟩) cs := by
  refine ⟨.inr ⟨b, 0, rfl, h.lt, fun i hi => ?_⟩, fun r hr => (hd r hr).din⟩
  obtain ⟨vs, h1, h2, h3⟩ := h
  have := h3 i (by simpa using hi)
  simp only [List.getElem_map] at this
  simp [World.cell?, h1, this]

end Go.Proofs.Ytdmfljejlhlbnaa
