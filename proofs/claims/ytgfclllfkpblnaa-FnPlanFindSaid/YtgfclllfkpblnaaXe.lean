/-
  A PLAN IS SOUGHT: spec.PlanFind.
-/
import Derived.Test.YtgfclllfkpblnaaXd
namespace Go.Proofs.Ytgfclllfkpblnaa
open Go.RowKit
set_option linter.unusedVariables false

/-- A slice of places that lies below block L. -/
def SpR (w : World) (L : Nat) (v : Value) (pl : List LPl) : Prop := ∃ sl cap, v = .slice sl pl.length cap ∧ (pl = [] ∨ ∃ c o, sl = some ⟨c, o, none⟩ ∧ PlAt w c o pl ∧ c < L)
theorem SpR.nil (w : World) (L : Nat) : SpR w L (.slice none 0 0) [] := ⟨none, 0, rfl, .inl rfl⟩
theorem SpR.kept {w w' : World} {L : Nat} {v : Value} {pl : List LPl} (h : SpR w L v pl) (hs : w.heap.size ≤ w'.heap.size) (hb : ∀ k, k < w.heap.size → k < L → w'.heap[k]? = w.heap[k]?) : SpR w' L v pl := by
  obtain ⟨sl, cap, e, h⟩ := h
  refine ⟨sl, cap, e, ?_⟩
  rcases h with h | ⟨c, o, e2, p, hl⟩
  · exact .inl h
  · exact .inr ⟨c, o, e2, ⟨Nat.lt_of_lt_of_le p.lt hs, fun i hi => ⟨(World.cell?_of_block (w := w) (hb c p.lt hl)).trans (p.cell i hi).1, (World.cell?_of_block (w := w) (hb c p.lt hl)).trans (p.cell i hi).2⟩⟩, hl⟩
theorem SpR.below {w w' : World} {L : Nat} {v : Value} {pl : List LPl} (h : SpR w L v pl) (hb : Below w.heap.size w w') : SpR w' L v pl := h.kept hb.size (fun k hk _ => hb.block k hk)
theorem SpR.down {X Y L : Nat} {w w' : World} {v : Value} {pl : List LPl} (h : SpR w L v pl) (hb : Btw X Y w w') (hX : L ≤ X) : SpR w' L v pl := h.kept hb.size (fun k hk hl => hb.block k hk (.inl (by omega)))
theorem SpR.pls {w : World} {L : Nat} {v : Value} {pl : List LPl} (h : SpR w L v pl) : ∃ sl cap, v = .slice sl pl.length cap ∧ Pls w sl pl := by
  obtain ⟨sl, cap, e, h⟩ := h
  refine ⟨sl, cap, e, ?_⟩
  rcases h with h | ⟨c, o, e2, p, hl⟩
  · exact .inl h
  · exact .inr ⟨c, o, e2, p⟩

set_option maxRecDepth 100000 in
set_option maxHeartbeats 8000000 in
/-- spec.PlanFind. -/
theorem spl_any (sl : Option Addr) (cap : Nat) (sl2 : Option Addr) (cap2 : Nat) (sl3 : Option Addr) (cap3 : Nat) (rs : List LSt) (ps : List LPr) (top : Int) (ids : List Int) (bd : Int) (w : World) (hn : rs.length ≤ 1048576) (hl : ids.length ≤ 1048576) (hz : Sts w sl rs) (hp : Prs w sl2 ps) (hi : Ints w sl3 ids) :
    Calls Try.prog 5 #[TV sl rs.length cap sl2 ps.length cap2, .int .i64 top, .slice sl3 ids.length cap3, .int .i64 bd] w fun e w' => ∃ pv, e = .returned (PV (pfV rs ps top ids bd) pv (pfT rs ps top ids bd) (pfC rs ps ids bd)) ∧ SpR w' w'.heap.size pv (pfP rs ps top ids bd) ∧ Below w.heap.size w w' := by
  have E1 : Hid (∀ W, Below w.heap.size w W → Calls Try.prog 20 #[TV sl rs.length cap sl2 ps.length cap2, .slice sl3 ids.length cap3] W fun e w' => e = .returned (.bool (B (IdsR rs ps ids))) ∧ Below W.heap.size W w') := fun W hW => sir_any sl cap sl2 cap2 sl3 cap3 rs ps ids W hn hl (hz.below hW) (hp.below hW) (hi.below hW)
  have HT := Lib.hid ((TabAt.new w sl rs.length cap sl2 ps.length cap2).below (bA0 _ (.cells #[.int .i64 0, .slice none 0 0, .int .i64 0, .int .i64 0] 32)))
  have X0 : Hid (BoxP ((w.alloc (.cells #[.slice sl rs.length cap, .slice sl2 ps.length cap2] 26)).alloc (.cells #[.int .i64 0, .slice none 0 0, .int .i64 0, .int .i64 0] 32)) (w.heap.size + 1)) := by
    have := new_at (w.alloc (.cells #[.slice sl rs.length cap, .slice sl2 ps.length cap2] 26)) (.cells #[.int .i64 0, .slice none 0 0, .int .i64 0, .int .i64 0] 32)
    rwa [show (w.alloc (.cells #[.slice sl rs.length cap, .slice sl2 ps.length cap2] 26)).heap.size = w.heap.size + 1 by simp] at this
  have B0 := Lib.hid (bA (bA0 w (.cells #[.slice sl rs.length cap, .slice sl2 ps.length cap2] 26)) (.cells #[.int .i64 0, .slice none 0 0, .int .i64 0, .int .i64 0] 32))
  by_cases h4 : 400 < ids.length
  · have h4' : (400 : Int) < (ids.length : Int) := by omega
    obtain ⟨pe1, pe2, pe3, pe4⟩ := pf_no (bd := bd) top (fun h : PfOk rs ps ids bd => by have := h.1.1; omega)
    rw [if_pos h4] at pe4
    rw [pe1, pe2, pe3, pe4]
    clear pe1 pe2 pe3 pe4 hz hp hi E1 HT
    generalize rs.length = rn at *
    generalize ps.length = pn at *
    generalize ids.length = n at *
    clear B0 X0
    go_enter Try.func5, Try.ntmps5
    go_wp2
    refine bodyPost_ret (v := PV 0 (.slice none 0 0) 0 2) (by simp [results, Try.results5, go_sem]) rfl ⟨_, rfl, SpR.nil _ _, bA (bA0 _ _) _⟩
  have h4' : ¬ (400 : Int) < (ids.length : Int) := by omega
  by_cases hok : PfOk rs ps ids bd
  · obtain ⟨bud, hbud⟩ : ∃ b : Nat, (b : Int) = bd := ⟨bd.toNat, by have := hok.2.1; omega⟩
    subst hbud
    have hir := hok.1
    obtain ⟨pe1, pe2, pe3, pe4⟩ := pf_yes top hok
    rw [pe1, pe2, pe3, pe4]
    rw [B_yes hir] at E1
    have hbd0 : ¬ (bud : Int) < 0 := by omega
    have hbd1 : ¬ (2000 : Int) < (bud : Int) := by have := hok.2.2; omega
    have ES : Hid (pfS rs ps top ids (bud : Int) = seek (fitB ps) bud (ids.map (chF rs top)) [] 0) := by unfold pfS; rw [Int.toNat_natCast]; exact Lib.hid rfl
    have FR : Hid (∀ kb wb W v pcap, Below w.heap.size w wb → wb.heap.size ≤ kb → Below wb.heap.size wb W → SeekAt W kb (.slice sl rs.length cap) (.slice sl2 ps.length cap2) (.int .i64 top) (.slice sl3 ids.length cap3) bud 0 false → Calls Try.prog 21 #[.pointer (some ⟨kb, 0, none⟩), .slice v 0 pcap] W (FromP kb (.slice sl rs.length cap) (.slice sl2 ps.length cap2) (.int .i64 top) (.slice sl3 ids.length cap3) bud W (pfS rs ps top ids (bud : Int)))) := fun kb wb W v pcap hb hk hW sk => by
      rw [ES.out]
      exact from_any sl cap sl2 cap2 sl3 cap3 rs ps top ids bud kb wb hk (by omega) hn hir.1 (hz.below hb) (hp.below hb) hir.2.1 (idsR_small_x hir) (hi.below hb) ids.length [] 0 v pcap W (Nat.zero_add _) (Nat.zero_le _) hW sk (.inl rfl) (fun x hx => by cases hx)
    clear hok hir hz hp hi pe1 pe2 pe3 pe4 ES
    generalize pfS rs ps top ids (bud : Int) = R at *
    generalize rs.length = rn at *
    generalize ps.length = pn at *
    generalize ids.length = n at *
    go_enter Try.func5, Try.ntmps5
    go_wp2_with fail
    generalize (w.alloc (.cells #[.slice sl rn cap, .slice sl2 pn cap2] 26)).alloc (.cells #[.int .i64 0, .slice none 0 0, .int .i64 0, .int .i64 0] 32) = w0 at *
    refine (E1.out _ B0.out).mono ?_
    rintro e w1 ⟨rfl, b1⟩
    have D1 := Lib.hid (bT B0.out b1)
    have HT1 := HT.out.below b1
    have X1 : Hid (BoxP w1 (w.heap.size + 1)) := (b1.block _ X0.out.facts.1).trans X0.out
    have hs1 := X1.out.facts.1
    obtain ⟨t0, t1⟩ := HT1.cells
    have tl := HT1.lt
    clear b1 E1 HT X0 B0 HT1
    have SK1 : SeekAt (w1.alloc (.cells #[.slice sl rn cap, .slice sl2 pn cap2, .int .i64 top, .slice sl3 n cap3, .int .i64 (bud : Nat), .int .i64 0, .bool false] 52)) w1.heap.size (.slice sl rn cap) (.slice sl2 pn cap2) (.int .i64 top) (.slice sl3 n cap3) bud 0 false := new_at _ _
    have F2 := Lib.hid (FR.out w1.heap.size w1 ((w1.alloc (.cells #[.slice sl rn cap, .slice sl2 pn cap2, .int .i64 top, .slice sl3 n cap3, .int .i64 (bud : Nat), .int .i64 0, .bool false] 52)).alloc (.cells #[] 62)) (some ⟨w1.heap.size + 1, 0, none⟩) 0 D1.out (Nat.le_refl _) (bA (bA0 _ _) _) (SK1.of (bA0 _ _)))
    have B2 := Lib.hid (bA (bA0 w1 (.cells #[.slice sl rn cap, .slice sl2 pn cap2, .int .i64 top, .slice sl3 n cap3, .int .i64 (bud : Nat), .int .i64 0, .bool false] 52)) (.cells #[] 62))
    clear SK1 FR
    go_wp2_with fail
    generalize (w1.alloc (.cells #[.slice sl rn cap, .slice sl2 pn cap2, .int .i64 top, .slice sl3 n cap3, .int .i64 (bud : Nat), .int .i64 0, .bool false] 52)).alloc (.cells #[] 62) = w2 at *
    refine F2.out.mono ?_
    rintro e w3 ⟨v3, ok3, rfl, pf3, on3⟩
    have B3 := Lib.hid (Onl.below B2.out (Nat.le_refl _) on3)
    have D3 := Lib.hid (bT D1.out B3.out)
    obtain ⟨rl, r0, r1, r2, r3, f0, f1, f2, f3⟩ := BoxP.facts (show BoxP w3 (w.heap.size + 1) from (B3.out.block _ hs1).trans X1.out)
    clear on3 F2 B2 X1 t0 t1 tl
    cases R with
    | found p s2 =>
      obtain ⟨rfl, ⟨ps7, pc7, rfl, pn7⟩, sk7⟩ := pf3
      obtain ⟨q0, q1, q2, q3, q4, q5, q6, q7, f5, f6⟩ := sk7.facts
      have P : Hid (Below w.heap.size w (set4 w3 (w.heap.size + 1) (.int .i64 1) (.slice ps7 p.length pc7) (.int .i64 (s2 : Nat)) (.int .i64 0))) := set4_below D3.out (by omega) _ _ _ _
      have Q : Hid (SpR (set4 w3 (w.heap.size + 1) (.int .i64 1) (.slice ps7 p.length pc7) (.int .i64 (s2 : Nat)) (.int .i64 0)) (set4 w3 (w.heap.size + 1) (.int .i64 1) (.slice ps7 p.length pc7) (.int .i64 (s2 : Nat)) (.int .i64 0)).heap.size (.slice ps7 p.length pc7) p) := by
        refine ⟨ps7, pc7, rfl, ?_⟩
        rcases pn7 with h | ⟨c, o, e, pa, hne⟩
        · exact .inl h
        · have bk : (set4 w3 (w.heap.size + 1) (.int .i64 1) (.slice ps7 p.length pc7) (.int .i64 (s2 : Nat)) (.int .i64 0)).heap[c]? = w3.heap[c]? := by
            unfold set4
            rw [Below.heap_setCell _ _ _ _ (by show c ≠ w.heap.size + 1; omega), Below.heap_setCell _ _ _ _ (by show c ≠ w.heap.size + 1; omega), Below.heap_setCell _ _ _ _ (by show c ≠ w.heap.size + 1; omega), Below.heap_setCell _ _ _ _ (by show c ≠ w.heap.size + 1; omega)]
          have sz : (set4 w3 (w.heap.size + 1) (.int .i64 1) (.slice ps7 p.length pc7) (.int .i64 (s2 : Nat)) (.int .i64 0)).heap.size = w3.heap.size := by simp [set4, World.setCell]
          exact .inr ⟨c, o, e, ⟨by rw [sz]; exact pa.lt, fun i hi => ⟨(World.cell?_of_block (w := w3) bk).trans (pa.cell i hi).1, (World.cell?_of_block (w := w3) bk).trans (pa.cell i hi).2⟩⟩, by rw [sz]; exact pa.lt⟩
      unfold set4 at P Q
      clear sk7 pn7
      go_wp2
      refine bodyPost_ret (v := PV 1 (.slice ps7 p.length pc7) (s2 : Nat) 0) (by simp [results, Try.results5, go_sem, r0, r1, r2, r3]) rfl ⟨_, rfl, Q.out, P.out⟩
    | none s2 =>
      obtain ⟨rfl, sk7⟩ := pf3
      obtain ⟨q0, q1, q2, q3, q4, q5, q6, q7, f5, f6⟩ := sk7.facts
      have P : Hid (Below w.heap.size w (set4 w3 (w.heap.size + 1) (.int .i64 2) (.slice none 0 0) (.int .i64 (s2 : Nat)) (.int .i64 0))) := set4_below D3.out (by omega) _ _ _ _
      unfold set4 at P
      clear sk7
      go_wp2
      refine bodyPost_ret (v := PV 2 (.slice none 0 0) (s2 : Nat) 0) (by simp [results, Try.results5, go_sem, r0, r1, r2, r3]) rfl ⟨_, rfl, SpR.nil _ _, P.out⟩
    | out s2 =>
      obtain ⟨rfl, sk7⟩ := pf3
      obtain ⟨q0, q1, q2, q3, q4, q5, q6, q7, f5, f6⟩ := sk7.facts
      have P : Hid (Below w.heap.size w (set4 w3 (w.heap.size + 1) (.int .i64 3) (.slice none 0 0) (.int .i64 (s2 : Nat)) (.int .i64 0))) := set4_below D3.out (by omega) _ _ _ _
      unfold set4 at P
      clear sk7
      go_wp2
      refine bodyPost_ret (v := PV 3 (.slice none 0 0) (s2 : Nat) 0) (by simp [results, Try.results5, go_sem, r0, r1, r2, r3]) rfl ⟨_, rfl, SpR.nil _ _, P.out⟩
  · obtain ⟨pe1, pe2, pe3, pe4⟩ := pf_no top hok
    rw [if_neg h4] at pe4
    rw [pe1, pe2, pe3, pe4]
    have HOK : Hid (B (IdsR rs ps ids) = false ∨ (B (IdsR rs ps ids) = true ∧ (bd < 0 ∨ (¬ bd < 0 ∧ (2000 : Int) < bd)))) := by
      by_cases h : IdsR rs ps ids
      · refine .inr ⟨B_yes h, ?_⟩
        by_cases h0 : bd < 0
        · exact .inl h0
        · by_cases h1 : (2000 : Int) < bd
          · exact .inr ⟨h0, h1⟩
          · exact absurd ⟨h, by omega, by omega⟩ hok
      · exact .inl (B_no h)
    clear pe1 pe2 pe3 pe4 hz hp hi hok HT
    generalize B (IdsR rs ps ids) = bi at *
    generalize rs.length = rn at *
    generalize ps.length = pn at *
    generalize ids.length = n at *
    have FIN : Hid (∀ w1, Below ((w.alloc (.cells #[.slice sl rn cap, .slice sl2 pn cap2] 26)).alloc (.cells #[.int .i64 0, .slice none 0 0, .int .i64 0, .int .i64 0] 32)).heap.size ((w.alloc (.cells #[.slice sl rn cap, .slice sl2 pn cap2] 26)).alloc (.cells #[.int .i64 0, .slice none 0 0, .int .i64 0, .int .i64 0] 32)) w1 → BoxP w1 (w.heap.size + 1) ∧ Below w.heap.size w (set4 w1 (w.heap.size + 1) (.int .i64 0) (.slice none 0 0) (.int .i64 0) (.int .i64 1))) := fun w1 b1 => ⟨(b1.block _ X0.out.facts.1).trans X0.out, set4_below (bT B0.out b1) (by omega) _ _ _ _⟩
    rcases HOK.out with rfl | ⟨rfl, hb | ⟨hb, hb2⟩⟩
    all_goals
      go_enter Try.func5, Try.ntmps5
      go_wp2_with fail
      generalize (w.alloc (.cells #[.slice sl rn cap, .slice sl2 pn cap2] 26)).alloc (.cells #[.int .i64 0, .slice none 0 0, .int .i64 0, .int .i64 0] 32) = w0 at *
      refine (E1.out _ B0.out).mono ?_
      rintro e w1 ⟨rfl, b1⟩
      obtain ⟨x1, p1⟩ := FIN.out w1 b1
      have P := Lib.hid p1
      unfold set4 at P
      obtain ⟨rl, r0, r1, r2, r3, f0, f1, f2, f3⟩ := BoxP.facts x1
      clear b1 p1 x1
      go_wp2
      refine bodyPost_ret (v := PV 0 (.slice none 0 0) 0 1) (by simp [results, Try.results5, go_sem, r0, r1, r2, r3]) rfl ⟨_, rfl, SpR.nil _ _, P.out⟩
end Go.Proofs.Ytgfclllfkpblnaa
