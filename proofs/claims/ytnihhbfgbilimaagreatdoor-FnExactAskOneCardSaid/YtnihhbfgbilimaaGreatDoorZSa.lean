import Derived.Test.YtnihhbfgbilimaaGreatDoorKAlb
import Derived.Test.YtnihhbfgbilimaaGreatDoorZRg
import Derived.Test.YtnihhbfgbilimaaGreatDoorZOc
namespace Go.Proofs.YtnihhbfgbilimaaGreatDoor
open Go.RowKit
set_option linter.unusedVariables false
set_option maxHeartbeats 400000 in
theorem szPl_any (sl : Option Addr) (n cap : Nat) (m : Int) (w : World) (hn : n ≤ maxLen) (h0 : 0 ≤ m) (h1 : m ≤ 1048576) :
  Calls Tryz.prog 29 #[.slice sl n cap, .int .i64 m] w fun e w' => e = .returned (.int .i64 (lft m n)) ∧ w' = w := by
 unfold maxLen at hn
 unfold lft
 by_cases c : m - (n : Int) < 0
 ·rw [if_pos c]
  go_enter Tryz.func29, Tryz.ntmps29
  go_wp2
  go_ret
  exact ⟨rfl, rfl⟩
 ·rw [if_neg c]
  go_enter Tryz.func29, Tryz.ntmps29
  go_wp2
  go_ret
  exact ⟨rfl, rfl⟩
set_option maxRecDepth 100000 in
set_option maxHeartbeats 1000000 in
theorem toPl_any (a b : Int) (w : World) : Calls Tryz.prog 91 #[.agg #[.int .i64 a, .int .i64 b]] w fun e w' => e = .returned (.agg #[.int .i64 a, .int .i64 b]) ∧ Below w.heap.size w w' := by
 go_enter Tryz.func91, Tryz.ntmps91
 go_wp2
 exact bodyPost_ret (v := .agg #[.int .i64 a, .int .i64 b]) (by simp [results, Tryz.results91, go_sem]) rfl ⟨rfl, bA (bA (bA0 _ _) _) _⟩
theorem Row2.pls {w : World} {b n : Nat} {ts : List LPl} (h : Row2 w b n ts) : Pls w (some ⟨b, 0, none⟩) ts := by
 have hl := h.lt
 obtain ⟨vs, h1, h2, h3⟩ := h
 refine .inr ⟨b, 0, rfl, hl, fun i hi => ?_⟩
 have := h3 i hi
 constructor <;> simp [World.cell?, h1, this]
theorem makeP (n : Nat) (h : n ≤ 1048576) (w : World) :
  ∃ vs : Array Value, Sem.run Tryz.prog (Instr.makeSlice 28 (.int .i64 (n : Int)) (.int .i64 (n : Int))) w = .ok (.slice (some ⟨w.heap.size, 0, none⟩) n n) (w.alloc (.cells vs 131)) ∧ Row2 (w.alloc (.cells vs 131)) w.heap.size n [] := by
 obtain ⟨i, h1, h2, h3, h4⟩ := info_parts info34
 have := run_make (P := Tryz.prog) w 28 131 i _ Tryz.underlying28 h1 h2 .i64 .i64 (n : Int) (n : Int) (by omega) (Int.le_refl _) (by rw [h4]; omega) (by omega)
 rw [h3] at this
 simp only [Int.toNat_natCast] at this
 exact ⟨_, this, _, new_at _ _, size_madeCells _ _, fun i hi => absurd hi (Nat.not_lt_zero _)⟩
set_option maxRecDepth 100000 in
set_option maxHeartbeats 1000000 in
theorem toPlS_any (sl : Option Addr) (cap : Nat) (ps : List LPl) (w : World) (hn : ps.length ≤ 1048576) (hz : Pls w sl ps) :
  Calls Tryz.prog 31 #[.slice sl ps.length cap] w fun e w' => e = .returned (.slice (some ⟨w.heap.size, 0, none⟩) ps.length ps.length) ∧ Row2 w' w.heap.size ps.length ps ∧ Below w.heap.size w w' := by
 have HZ := Lib.hid hz
 clear hz
 obtain ⟨vs, hmk, hr0⟩ := makeP ps.length hn w
 have R0 := Lib.hid hr0
 clear hr0
 generalize hN : ps.length = n at *
 have HN := Lib.hid hN
 clear hN
 go_enter Tryz.func31, Tryz.ntmps31
 go_wp2
 go_loopw [4] (fun i wr => ∃ k : Nat, i = .int .i64 k ∧ k ≤ n ∧ Hid (Row2 wr w.heap.size n (ps.take k)) ∧ Hid (Below w.heap.size w wr)) (fun i _ => n - (intOf i).toNat)
 case atStart => exact ⟨0, rfl, Nat.zero_le _, R0, bA0 _ _⟩
 case round =>
  obtain ⟨k, rfl, hk, R1, H2⟩ := hrel
  have hk0 : (0 : Int) ≤ (k : Int) := by omega
  by_cases c1 : k < n
  ·have c1' : (k : Int) < (n : Int) := by omega
   have hlt : k < ps.length := by rw [HN.out]; exact c1
   obtain ⟨c, o, rfl, Z0⟩ : ∃ c o, sl = some ⟨c, o, none⟩ ∧ PlAt w c o ps := by
    rcases HZ.out with e | h
    ·rw [e] at hlt; simp at hlt
    ·exact h
   have hc0 := (H2.out.cell Z0.lt).trans (Z0.cell k hlt).1
   have hc1 := (H2.out.cell Z0.lt).trans (Z0.cell k hlt).2
   obtain ⟨a, b, hp⟩ : ∃ a b, ps[k] = (a, b) := ⟨_, _, rfl⟩
   rw [hp] at hc0 hc1
   dsimp only at hc0 hc1
   have ET := Lib.hid (show ps.take (k + 1) = ps.take k ++ [(a, b)] by
    rw [List.take_add_one, List.getElem?_eq_getElem hlt, hp]; simp)
   have LT := Lib.hid (show k = (ps.take k).length by simp; omega)
   have LN := Lib.hid (show (ps.take k).length < n by rw [← LT.out]; exact c1)
   have E := Lib.hid (toPl_any a b)
   clear hp hlt
   go_wp2_with fail
   refine (E.out _).mono ?_
   rintro e w5 ⟨rfl, b5⟩
   have D5 := Lib.hid (bT H2.out b5)
   have R5 := Lib.hid (R1.out.below b5)
   obtain ⟨⟨v0, g0⟩, f0⟩ := R5.out.there (k * 2) (by omega)
   obtain ⟨⟨v1, g1⟩, f1⟩ := R5.out.there (k * 2 + 1) (by omega)
   have R6 := Lib.hid (R5.out.step LN.out a b k LT.out)
   rw [← ET.out] at R6
   have D6 : Hid (Below w.heap.size w ((w5.setCell ⟨w.heap.size, k * 2, none⟩ (.int .i64 a)).setCell ⟨w.heap.size, k * 2 + 1, none⟩ (.int .i64 b))) := (D5.out.setCell (Nat.le_refl _) _).setCell (Nat.le_refl _) _
   clear b5 R1 R5 ET LT LN
   go_wp2_with fail
   go_roundw
   case rel => exact ⟨k + 1, by go_num, by omega, R6, D6⟩
   case measure => simp [intOf]; omega
  ·have c1' : ¬ (k : Int) < (n : Int) := by omega
   have P := Lib.hid (show Row2 wr w.heap.size n ps by have := R1.out; rwa [List.take_of_length_le (by rw [HN.out]; omega)] at this)
   go_wp2
   go_ret
   exact ⟨rfl, P.out, H2.out⟩
theorem faultA_bare {rs rs' : List LSt} (ps : List LPr) (top : Int) (pl : List LPl) (h : bareS rs = bareS rs') : faultA rs ps top pl = faultA rs' ps top pl := by
 have hg : ∀ pre p, goodB rs ps top pre p = goodB rs' ps top pre p := fun pre p => by unfold goodB; rw [dom_bareR p.1 top h]
 have hf : ∀ r pre, faultF rs ps top pre r = faultF rs' ps top pre r := by
  intro r
  induction r with
  | nil => intro pre; rfl
  | cons p r ih => intro pre; unfold faultF; rw [hg, ih]
 unfold faultA
 rw [idsR_bare ps (pidsL pl) h, hf]
theorem planB_bare {rs rs' : List LSt} (ps : List LPr) (top : Int) (pl : List LPl) (h : bareS rs = bareS rs') : planB rs ps top pl = planB rs' ps top pl := by
 unfold planB
 rw [faultA_bare ps top pl h]
theorem addA_bare {rs rs' : List LSt} (ps : List LPr) (top : Int) (pl : List LPl) (id : Int) (h : bareS rs = bareS rs') : addA rs ps top pl id = addA rs' ps top pl id := by
 have e : AddOk rs ps top pl id ↔ AddOk rs' ps top pl id := by unfold AddOk; rw [planB_bare ps top pl h]
 unfold addA
 rw [B_iff e, dom_bareR id top h]
open Classical in
noncomputable def oneF (rs : List LSt) (ps : List LPr) (top : Int) (pl : List LPl) (id bud : Int) : AskF :=
 if 400 < pl.length then ⟨0, 0, 0, 2, [], []⟩ else if ¬ (planB rs ps top pl = true ∧ IdsR rs ps (widL pl id) ∧ BudR bud) then ⟨0, 0, 0, 1, [], []⟩ else if addA rs ps top pl id ≠ [] then ⟨1, 1, 0, 0, addA rs ps top pl id, []⟩ else
  ⟨(askR rs ps top (widL pl id) bud).1.1, 2, (askR rs ps top (widL pl id) bud).1.2.2.2, 0, if (askR rs ps top (widL pl id) bud).1.1 = 1 then askP rs ps top (widL pl id) bud else [], (askR rs ps top (widL pl id) bud).1.2.2.1⟩
theorem one_form {rs : List LSt} {ps : List LPr} {top : Int} {pl : List LPl} {id bud : Int} {w : World} {e : Ending} {w' : World} (h : oneP rs ps top pl id bud w e w') :
  ∃ vp vl, e = .returned (AV (oneF rs ps top pl id bud).x (oneF rs ps top pl id bud).hw vp vl (oneF rs ps top pl id bud).st (oneF rs ps top pl id bud).c) ∧ AOw w.heap.size (oneF rs ps top pl id bud).P (oneF rs ps top pl id bud).L vp vl w' ∧ Below w.heap.size w w' := by
 classical
 obtain ⟨hb, ⟨h2, he⟩ | ⟨h2, h1, he⟩ | ⟨h2, h1, hA, s, c, he, ho⟩ | ⟨h2, h1, hA, s1, n1, c1, s2, n2, c2, s3, n3, c3, he, ls, so, hy, hn⟩⟩ := h
 ·rw [show oneF rs ps top pl id bud = ⟨0, 0, 0, 2, [], []⟩ from if_pos h2]
  exact ⟨_, _, he, ⟨⟨rfl, .inl ⟨rfl, rfl⟩⟩, [], OwC.nil _ _, rfl⟩, hb⟩
 ·rw [show oneF rs ps top pl id bud = ⟨0, 0, 0, 1, [], []⟩ by unfold oneF; rw [if_neg h2, if_pos h1]]
  exact ⟨_, _, he, ⟨⟨rfl, .inl ⟨rfl, rfl⟩⟩, [], OwC.nil _ _, rfl⟩, hb⟩
 ·rw [show oneF rs ps top pl id bud = ⟨1, 1, 0, 0, addA rs ps top pl id, []⟩ by unfold oneF; rw [if_neg h2, if_neg h1, if_pos hA]]
  exact ⟨_, _, he, ⟨ho, [], OwC.nil _ _, rfl⟩, hb⟩
 ·rw [show oneF rs ps top pl id bud = ⟨(askR rs ps top (widL pl id) bud).1.1, 2, (askR rs ps top (widL pl id) bud).1.2.2.2, 0, if (askR rs ps top (widL pl id) bud).1.1 = 1 then askP rs ps top (widL pl id) bud else [], (askR rs ps top (widL pl id) bud).1.2.2.1⟩ by unfold oneF; rw [if_neg h2, if_neg h1, if_neg (fun g => g hA)]]
  refine ⟨_, _, he, ⟨?_, ls, so.ol, so.eq⟩, hb⟩
  by_cases hv : (askR rs ps top (widL pl id) bud).1.1 = 1
  ·simp only [if_pos hv]
   exact hy hv
  ·simp only [if_neg hv]
   obtain ⟨rfl, rfl, rfl⟩ := hn hv
   exact ⟨rfl, .inl ⟨rfl, rfl⟩⟩
theorem oneF_small (rs : List LSt) (ps : List LPr) (top : Int) (pl : List LPl) (id bud : Int) : (oneF rs ps top pl id bud).P.length ≤ 1048576 ∧ (oneF rs ps top pl id bud).L.length ≤ 1000 ∧ ∀ l ∈ (oneF rs ps top pl id bud).L, l.length ≤ 1000 := by
 classical
 by_cases h2 : 400 < pl.length
 ·rw [show oneF rs ps top pl id bud = ⟨0, 0, 0, 2, [], []⟩ from if_pos h2]
  exact ⟨by simp, by simp, fun l hl => by cases hl⟩
 by_cases h1 : ¬ (planB rs ps top pl = true ∧ IdsR rs ps (widL pl id) ∧ BudR bud)
 ·rw [show oneF rs ps top pl id bud = ⟨0, 0, 0, 1, [], []⟩ by unfold oneF; rw [if_neg h2, if_pos h1]]
  exact ⟨by simp, by simp, fun l hl => by cases hl⟩
 by_cases hA : addA rs ps top pl id ≠ []
 ·rw [show oneF rs ps top pl id bud = ⟨1, 1, 0, 0, addA rs ps top pl id, []⟩ by unfold oneF; rw [if_neg h2, if_neg h1, if_pos hA]]
  have := addA_len rs ps top pl id
  exact ⟨by dsimp only; omega, by simp, fun l hl => by cases hl⟩
 ·rw [show oneF rs ps top pl id bud = ⟨(askR rs ps top (widL pl id) bud).1.1, 2, (askR rs ps top (widL pl id) bud).1.2.2.2, 0, if (askR rs ps top (widL pl id) bud).1.1 = 1 then askP rs ps top (widL pl id) bud else [], (askR rs ps top (widL pl id) bud).1.2.2.1⟩ by unfold oneF; rw [if_neg h2, if_neg h1, if_neg hA]]
  have hs := solA_small (cnN rs ps top (widL pl id) : Nat) (cnA rs ps top (widL pl id)) bud
  refine ⟨?_, hs.2.1, hs.2.2⟩
  have hq := askR_len rs ps top (widL pl id) bud
  dsimp only
  split
  ·unfold askP poA
   split
   ·unfold poP; rw [List.length_map]; exact hq
   ·simp
  ·simp
theorem oneF_bare {rs rs' : List LSt} (ps : List LPr) (top : Int) (pl : List LPl) (id bud : Int) (h : bareS rs = bareS rs') : oneF rs ps top pl id bud = oneF rs' ps top pl id bud := by
 unfold oneF
 rw [planB_bare ps top pl h, idsR_bare ps (widL pl id) h, addA_bare ps top pl id h, askR_bare ps top (widL pl id) bud h, askP_bare ps top (widL pl id) bud h]
section
open Go.ChangeShapes Go.WideShapes
def WfL (p : LPl) : Prop := wfI p.1 ∧ wfI p.2
theorem cellsP : Tryz.prog.cellsOf 133 = 2 := by kernel_rfl
section
variable {H : Type} {enc : TypeId × Value → H} {W : World} {base : Nat} {sp : Nat → Bool} {held : Bool}
theorem open_pl1 {fuel : Nat} {cs : List Value} {x : DataW H × List MemPlace} (h : DataW.trod enc Tryz.prog W base sp held fuel 133 cs = some x) :
  ∃ p : LPl, cs = [.int .i64 p.1, .int .i64 p.2] ∧ WfL p := by
 obtain ⟨y0, y1, n, _, hl, f0, f1⟩ := trod_struct2 Tryz.underlying133 h
 rw [cellsP] at hl
 obtain ⟨c0, c1, rfl⟩ : ∃ c0 c1, cs = [c0, c1] := by
  rcases cs with _ | ⟨a, _ | ⟨b, _ | ⟨c, r⟩⟩⟩ <;> simp at hl
  exact ⟨a, b, rfl⟩
 simp only [cells2', List.drop_zero, List.take_succ_cons, List.take_zero, List.drop_succ_cons] at f0 f1
 obtain ⟨a, ha, wa⟩ := open_i64 f0
 obtain ⟨b, hb, wb⟩ := open_i64 f1
 simp at ha hb
 exact ⟨(a, b), by rw [ha, hb], wa, wb⟩
theorem open_pls0 {fuel : Nat} {cs : List Value} {x : DataW H × List MemPlace} (h : DataW.trod enc Tryz.prog W base sp held fuel 59 cs = some x) :
  ∃ sl cap ps, cs = [.slice sl (List.length ps) cap] ∧ Pls W sl ps ∧ ps.length ≤ maxLen ∧ ∀ p ∈ ps, WfL p := by
 rcases Go.Deep.open_slice Tryz.underlying59 h with ⟨rfl, _⟩ | ⟨a, len, cap, m, n, D, Pl, rfl, _, hl, hm, hmm, _, hx⟩
 ·exact ⟨none, 0, [], rfl, .inl rfl, Nat.zero_le _, fun p hp => by cases hp⟩
 ·have hlm : len ≤ m := by rw [hmm]; split <;> omega
  have each : ∀ i, i < len → ∃ p : LPl, W.cell? (a.add (i * 2)) = some (.int .i64 p.1) ∧ W.cell? (a.add (i * 2 + 1)) = some (.int .i64 p.2) ∧ WfL p := by
   intro i hi
   obtain ⟨cs', h1, h2⟩ := hx i (by omega)
   rw [cellsP] at h1
   obtain ⟨_, hlen, hcell⟩ := World.cells?_some h1
   obtain ⟨p, rfl, hw⟩ := open_pl1 h2
   have e0 := hcell 0 (by omega)
   have e1 := hcell 1 (by omega)
   rw [Go.Deep.add_add] at e0 e1
   exact ⟨p, by simpa using e0, by simpa using e1, hw⟩
  obtain ⟨q, hq⟩ := Go.Deep.choose_lt each
  have hlen : ((List.range len).map q).length = len := by simp
  refine ⟨some a, cap, (List.range len).map q, by rw [hlen], ?_, by rw [hlen]; omega, fun p hp => ?_⟩
  ·by_cases h0 : len = 0
   ·subst h0; exact .inl rfl
   ·obtain ⟨c, o, rfl, hcl⟩ := addr_none (hq 0 (by omega)).1
    refine .inr ⟨c, o, rfl, hcl, fun i hi => ?_⟩
    have hi' : i < len := by simpa using hi
    obtain ⟨a0, a1, _⟩ := hq i hi'
    rw [add_at] at a0 a1
    simp only [List.getElem_map, List.getElem_range]
    exact ⟨a0, by rw [Nat.add_assoc]; exact a1⟩
  ·obtain ⟨i, hi, rfl⟩ := List.mem_map.1 hp
   exact (hq i (by simpa using hi)).2.2
theorem open_pls {a : Option Addr} {len cap : Nat} {d : DataW H} {ps : List MemPlace} (h : DataW.Trod enc Tryz.prog W base sp held 59 (.slice a len cap) d ps) :
  ∃ pl : List LPl, len = pl.length ∧ Pls W a pl ∧ pl.length ≤ maxLen ∧ ∀ p ∈ pl, WfL p := by
 obtain ⟨fuel, hf⟩ := h
 obtain ⟨sl, cap', pl, e, h1, h2, h3⟩ := open_pls0 hf
 simp [Value.cells] at e
 obtain ⟨rfl, rfl, rfl⟩ := e
 exact ⟨pl, rfl, h1, h2, h3⟩
end
end
set_option maxRecDepth 100000 in
set_option maxHeartbeats 8000000 in
theorem law5 (sl : Option Addr) (cap : Nat) (sl2 : Option Addr) (cap2 : Nat) (sl3 : Option Addr) (cap3 : Nat) (rs : List LSt) (ps : List LPr) (l3 : List LPl) (top id bud : Int) (w : World) (hT : TabB w) (h : InT w sl sl2 rs ps) (hl3 : l3.length ≤ maxLen) (h3 : Pls w sl3 l3) :
  Calls Tryz.prog 5 #[TV sl rs.length cap sl2 ps.length cap2, .int .i64 top, .slice sl3 l3.length cap3, .int .i64 id, .int .i64 bud] w fun e w' => e = .returned (.bool true) ∧ Below w.heap.size w w' := by
 have hm3 := hl3
 unfold maxLen at hm3
 have SZ : Hid (∀ W, Below w.heap.size w W → Calls Tryz.prog 17 #[TV sl rs.length cap sl2 ps.length cap2, .int .i64 1048576] W fun e w' => e = .returned (.int .i64 (lft 1048576 (rs.length + totD rs + ps.length))) ∧ Below W.heap.size W w') := fun W hW => szTab_any sl cap sl2 _ cap2 rs W h.ln h.lp (h.st.below hW)
 rcases lft_cases 1048576 (rs.length + totD rs + ps.length) (by omega) with ⟨e, hl⟩ | ⟨e, hl⟩
 ·rw [e] at SZ
  clear h h3 e hl
  generalize rs.length = n at *
  generalize ps.length = m at *
  generalize l3.length = q at *
  go_enter Tryz.func5, Tryz.ntmps5
  go_wp2_with fail
  refine (SZ.out _ (bA0 _ _)).mono ?_
  rintro e w1 ⟨rfl, b1⟩
  have D1 := Lib.hid (bT (bA0 w _) b1)
  clear b1
  go_wp2
  go_ret
  exact ⟨rfl, D1.out⟩
 rw [e] at SZ
 have SZ2 : Hid (∀ W, Calls Tryz.prog 29 #[.slice sl3 l3.length cap3, .int .i64 (1048576 - ((rs.length + totD rs + ps.length : Nat) : Int))] W fun e w' => e = .returned (.int .i64 (lft (1048576 - ((rs.length + totD rs + ps.length : Nat) : Int)) l3.length)) ∧ w' = W) := fun W => szPl_any sl3 l3.length cap3 (1048576 - ((rs.length + totD rs + ps.length : Nat) : Int)) W hl3 (by omega) (by omega)
 have hneg : ¬ (1048576 - ((rs.length + totD rs + ps.length : Nat) : Int)) < 0 := by omega
 rcases lft_cases (1048576 - ((rs.length + totD rs + ps.length : Nat) : Int)) l3.length (by omega) with ⟨e2, hl2⟩ | ⟨e2, hl2⟩
 ·rw [e2] at SZ2
  clear h h3 e hl e2 hl2
  generalize (1048576 - ((rs.length + totD rs + ps.length : Nat) : Int)) = z at *
  generalize rs.length = n at *
  generalize ps.length = m at *
  generalize l3.length = q at *
  go_enter Tryz.func5, Tryz.ntmps5
  go_wp2_with fail
  refine (SZ.out _ (bA0 _ _)).mono ?_
  rintro e w1 ⟨rfl, b1⟩
  have D1 := Lib.hid (bT (bA0 w _) b1)
  clear b1
  go_wp2_with fail
  refine (SZ2.out _).mono ?_
  rintro e w2 ⟨rfl, rfl⟩
  go_wp2
  go_ret
  exact ⟨rfl, D1.out⟩
 rw [e2] at SZ2
 have hz3 : l3.length ≤ 1048576 := by omega
 have hneg2 : ¬ ((1048576 - ((rs.length + totD rs + ps.length : Nat) : Int)) - (l3.length : Int)) < 0 := by omega
 have hs : Sts w sl rs := h.st.small (by omega)
 have TO : Hid (∀ W, Below w.heap.size w W → Calls Tryz.prog 19 #[TV sl rs.length cap sl2 ps.length cap2] W fun e w' => ∃ b1 b2 rs', e = .returned (TV (some ⟨b1, 0, none⟩) rs.length rs.length (some ⟨b2, 0, none⟩) ps.length ps.length) ∧ bareS rs' = bareS rs ∧ OwnT W.heap.size w' b1 b2 rs' ps ∧ Below W.heap.size W w') := fun W hW => toTO_any sl cap sl2 cap2 rs ps W (by omega) (by omega) (hs.below hW) (h.pr.below hW)
 have TP : Hid (∀ W, Below w.heap.size w W → Calls Tryz.prog 31 #[.slice sl3 l3.length cap3] W fun e w' => e = .returned (.slice (some ⟨W.heap.size, 0, none⟩) l3.length l3.length) ∧ Row2 w' W.heap.size l3.length l3 ∧ Below W.heap.size W w') := fun W hW => toPlS_any sl3 cap3 l3 W hz3 (h3.below hW)
 have EQ : Hid (∀ c d W, Row2 W c l3.length l3 → Row2 W d l3.length l3 → Calls Tryz.prog 33 #[.slice (some ⟨c, 0, none⟩) l3.length l3.length, .slice (some ⟨d, 0, none⟩) l3.length l3.length] W fun e w' => e = .returned (.bool true) ∧ Below W.heap.size W w') := fun c d W a b => eqPlS_any _ _ _ _ l3 W hz3 a.pls b.pls
 have SP : Hid (∀ b1 b2 rs' c C W, bareS rs' = bareS rs → OwnT C W b1 b2 rs' ps → Row2 W c l3.length l3 → Calls Tryz.prog 30 #[TV (some ⟨b1, 0, none⟩) rs.length rs.length (some ⟨b2, 0, none⟩) ps.length ps.length, .int .i64 top, .slice (some ⟨c, 0, none⟩) l3.length l3.length, .int .i64 id, .int .i64 bud] W fun e w' => ∃ vp vl, e = .returned (AV (oneF rs ps top l3 id bud).x (oneF rs ps top l3 id bud).hw vp vl (oneF rs ps top l3 id bud).st (oneF rs ps top l3 id bud).c) ∧ AOw W.heap.size (oneF rs ps top l3 id bud).P (oneF rs ps top l3 id bud).L vp vl w' ∧ Below W.heap.size W w') := fun b1 b2 rs' c C W eb o i => by
  have hl' := bareS_len eb
  have := sone_any (some ⟨b1, 0, none⟩) rs.length (some ⟨b2, 0, none⟩) ps.length top (some ⟨c, 0, none⟩) l3.length id bud rs' ps l3 W (by omega) hz3 o.sts o.prs i.pls
  rw [hl'] at this
  rw [← oneF_bare ps top l3 id bud eb]
  exact this.mono fun e w' hq => one_form hq
 have IM : Hid (∀ b1 b2 rs' c C W, Below w.heap.size w W → bareS rs' = bareS rs → OwnT C W b1 b2 rs' ps → Row2 W c l3.length l3 → Calls Tryz.prog 32 #[TV (some ⟨b1, 0, none⟩) rs.length rs.length (some ⟨b2, 0, none⟩) ps.length ps.length, .int .i64 top, .slice (some ⟨c, 0, none⟩) l3.length l3.length, .int .i64 id, .int .i64 bud] W fun e w' => ∃ vp vl, e = .returned (AV (oneF rs ps top l3 id bud).x (oneF rs ps top l3 id bud).hw vp vl (oneF rs ps top l3 id bud).st (oneF rs ps top l3 id bud).c) ∧ AOw W.heap.size (oneF rs ps top l3 id bud).P (oneF rs ps top l3 id bud).L vp vl w' ∧ Below W.heap.size W w') := fun b1 b2 rs' c C W hW eb o i => by
  have hl' := bareS_len eb
  have := ione_any (some ⟨b1, 0, none⟩) rs.length (some ⟨b2, 0, none⟩) ps.length top (some ⟨c, 0, none⟩) l3.length id bud rs' ps l3 W (by omega) hz3 o.sts o.prs h.wf i.pls (Nat.le_refl _) (hT.belowT hW)
  rw [hl'] at this
  rw [← oneF_bare ps top l3 id bud eb]
  exact this.mono fun e w' hq => one_form hq
 have TE : Hid (∀ b1 b2 rs1 c1 c2 rs2 W, bareS rs1 = bareS rs → bareS rs2 = bareS rs → Sts W (some ⟨b1, 0, none⟩) rs1 → Prs W (some ⟨b2, 0, none⟩) ps → Sts W (some ⟨c1, 0, none⟩) rs2 → Prs W (some ⟨c2, 0, none⟩) ps → Calls Tryz.prog 23 #[TV (some ⟨b1, 0, none⟩) rs.length rs.length (some ⟨b2, 0, none⟩) ps.length ps.length, TV (some ⟨c1, 0, none⟩) rs.length rs.length (some ⟨c2, 0, none⟩) ps.length ps.length] W fun e w' => e = .returned (.bool true) ∧ Below W.heap.size W w') := fun b1 b2 rs1 c1 c2 rs2 W e1 e2 s1 p1 s2 p2 => by
  have := eqT_any (some ⟨b1, 0, none⟩) (some ⟨c1, 0, none⟩) rs.length rs.length (some ⟨b2, 0, none⟩) (some ⟨c2, 0, none⟩) ps.length ps.length rs1 rs2 ps W (by rw [bareS_len e1]; omega) (by omega) (e1.trans e2.symm) s1 s2 p1 p2
  rwa [bareS_len e1, bareS_len e2] at this
 have MT : Hid (∀ C b1 b2 rs' w0 W, bareS rs' = bareS rs → OwnT C w0 b1 b2 rs' ps → Below w0.heap.size w0 W → Calls Tryz.prog 25 #[TV (some ⟨b1, 0, none⟩) rs.length rs.length (some ⟨b2, 0, none⟩) ps.length ps.length, .int .i64 1] W fun e w' => ∃ k : Int, (0 ≤ k ∧ k ≤ 4000000) ∧ e = .returned (.int .i64 k) ∧ Btw C w0.heap.size W w') := fun C b1 b2 rs' w0 W eb o hb => by
  have o' := o.below hb
  have stm := o.stM.below hb
  have hl' := bareS_len eb
  have ht : totD rs' = totD rs := by
   have := congrArg (List.map fun r : Int × Int × List Int => r.2.2.length) eb
   unfold totD
   simpa [bareS, Function.comp_def] using congrArg List.sum this
  have hP : PrM W b2 ps.length := by obtain ⟨vs, a, b, _⟩ := o'.r2; exact ⟨vs, a, b⟩
  have hSum : rs'.length + totD rs' + ps.length ≤ 1048576 := by rw [hl', ht]; omega
  have := mkTG_any C w0.heap.size b1 b2 rs' ps.length hSum W stm hP o.lo2 o.r2.lt hb.size
  rw [hl'] at this
  exact this.mono fun e w' ⟨k, k0, he, hg, _⟩ => ⟨k, k0, he, hg⟩
 have MI : Hid (∀ (k : Int) b W, 0 ≤ k → k ≤ 1000000000 → Row2 W b l3.length l3 → Calls Tryz.prog 34 #[.slice (some ⟨b, 0, none⟩) l3.length l3.length, .int .i64 k] W fun e w' => e = .returned (.int .i64 (k + 2 * (l3.length : Int))) ∧ Only b W w') := fun k b W k0 k1 z => by
  obtain ⟨vs, z1, z2, -⟩ := z
  exact (mark2_some b l3.length (l3.length * 2) l3.length k hz3 (Nat.le_refl _) k0 k1 W ⟨vs, z1, z2, fun j hj => absurd hj (Nat.not_lt_zero _)⟩).mono fun e w' ⟨h1, _, h2⟩ => ⟨h1, h2⟩
 obtain ⟨hP, hL, hLr⟩ := oneF_small rs ps top l3 id bud
 have hq3 : (l3.length : Int) ≤ 1048576 := by omega
 clear h hs e hl h3 hT e2 hl2
 generalize (1048576 - ((rs.length + totD rs + ps.length : Nat) : Int)) - (l3.length : Int) = z2 at *
 generalize (1048576 - ((rs.length + totD rs + ps.length : Nat) : Int)) = z at *
 generalize rs.length = n at *
 generalize ps.length = m at *
 generalize l3.length = q at *
 generalize (oneF rs ps top l3 id bud) = fa at *
 obtain ⟨x, hw, st, c, P, L⟩ := fa
 dsimp only at SP IM hP hL hLr
 have EA : Hid (∀ T C vp vl vp' vl' W, AOw C P L vp' vl' W → AOl T P L vp vl W → Calls Tryz.prog 22 #[AV x hw vp' vl' st c, AV x hw vp vl st c] W fun e w' => e = .returned (.bool true) ∧ Below W.heap.size W w') := fun T C vp vl vp' vl' W a b => AOl.eq x hw st c a b hP (by omega)
 have MA : Hid (∀ B vp vl W, AOw B P L vp vl W → B ≤ W.heap.size → Calls Tryz.prog 27 #[AV x hw vp vl st c, .int .i64 1] W fun e w' => e = .returned (.int .i64 (1 + 2 * (P.length : Int) + (totQ L : Int))) ∧ AOm B P.length L vp vl w' ∧ Below B W w' ∧ K49 W w') := fun B vp vl W a b => a.mark x hw st c b hP hL hLr
 have HA : Hid (∀ B vp vl W, AOm B P.length L vp vl W → Calls Tryz.prog 28 #[AV x hw vp vl st c, .int .i64 1] W fun e w' => e = .returned (.int .i64 (1 + 2 * (P.length : Int) + (totQ L : Int))) ∧ Below W.heap.size W w') := fun B vp vl W a => a.held x hw st c hP hL hLr
 have hk9 : ¬ (1 + 2 * (P.length : Int) + (totQ L : Int)) < 0 := by omega
 clear hP hL hLr
 generalize (1 + 2 * (P.length : Int) + (totQ L : Int)) = kq at *
 have hkk : (kq != kq) = false := by simp
 have HT := Lib.hid (show (w.alloc (.cells #[.slice sl n cap, .slice sl2 m cap2] 46)).heap[w.heap.size]? = some (.cells #[.slice sl n cap, .slice sl2 m cap2] 46) from new_at _ _)
 have B0 := Lib.hid (bA0 w (.cells #[.slice sl n cap, .slice sl2 m cap2] 46))
 have hw0 : (w.alloc (.cells #[.slice sl n cap, .slice sl2 m cap2] 46)).heap.size = w.heap.size + 1 := by simp
 have KT : Hid (∀ W, Below (w.heap.size + 1) (w.alloc (.cells #[.slice sl n cap, .slice sl2 m cap2] 46)) W → w.heap.size < W.heap.size ∧ W.cell? ⟨w.heap.size, 0, none⟩ = some (.slice sl n cap) ∧ W.cell? ⟨w.heap.size, 1, none⟩ = some (.slice sl2 m cap2)) := fun W hW => by
  have := (hW.block w.heap.size (by omega)).trans HT.out
  exact ⟨(Array.getElem?_eq_some_iff.1 this).1, by simp [World.cell?, this], by simp [World.cell?, this]⟩
 clear HT
 go_enter Tryz.func5, Tryz.ntmps5
 go_wp2_with fail
 refine (SZ.out _ (bA0 _ _)).mono ?_
 rintro e w1 ⟨rfl, b1⟩
 generalize w.alloc (.cells #[.slice sl n cap, .slice sl2 m cap2] 46) = wA at *
 have A1 : Hid (Below (w.heap.size + 1) wA w1) := by rw [← hw0]; exact b1
 have D1 := Lib.hid (bT B0.out b1)
 clear b1 SZ
 go_wp2_with fail
 refine (SZ2.out _).mono ?_
 rintro e w1' ⟨rfl, rfl⟩
 clear SZ2
 obtain ⟨tl, t0, t1⟩ := KT.out _ A1.out
 have hs1 := A1.out.size
 go_wp2_with fail
 refine (TO.out _ D1.out).mono ?_
 rintro e w2 ⟨b1, b2, rs1, rfl, e1, o1, bl2⟩
 have D2 := Lib.hid (bT D1.out bl2)
 have A2 := Lib.hid (A1.out.trans (bl2.mono (by omega)))
 have O2 := Lib.hid o1
 have hs2 := A2.out.size
 clear o1 bl2 A1 D1 t0 t1 tl
 go_wp2_with fail
 refine (TP.out _ D2.out).mono ?_
 rintro e w2b ⟨rfl, i2, bl2⟩
 have D2b := Lib.hid (bT D2.out bl2)
 have A2b := Lib.hid (A2.out.trans (bl2.mono (by omega)))
 have T2 := Lib.hid (SP.out b1 b2 rs1 _ _ w2b e1 (O2.out.below bl2) i2)
 have hs2b := A2b.out.size
 clear i2 bl2 e1 O2 A2 D2
 go_wp2_with fail
 refine T2.out.mono ?_
 rintro e w3 ⟨vp0, vl0, rfl, q3, bl3⟩
 obtain ⟨s10, k10, s20, k20, rfl, rfl⟩ := q3.form
 have V3 := Lib.hid (q3.low)
 have D3 := Lib.hid (bT D2b.out bl3)
 have A3 := Lib.hid (A2b.out.trans (bl3.mono (by omega)))
 have hs3 := A3.out.size
 have hd3 := D3.out.size
 have X3 := Lib.hid (new_at w3 (AC x hw (.slice s10 P.length k10) (.slice s20 L.length k20) st c))
 have N3 := Lib.hid (bA0 w3 (AC x hw (.slice s10 P.length k10) (.slice s20 L.length k20) st c))
 have hsa : (w3.alloc (AC x hw (.slice s10 P.length k10) (.slice s20 L.length k20) st c)).heap.size = w3.heap.size + 1 := by simp
 have V3a := Lib.hid (V3.out.below N3.out (Nat.le_refl _) (Nat.le_refl _))
 have D3a := Lib.hid (bT D3.out N3.out)
 have A3a := Lib.hid (A3.out.trans (N3.out.mono (by omega)))
 clear q3 bl3 T2 A2b D2b V3 N3 A3 D3
 obtain ⟨tl, t0, t1⟩ := KT.out _ A3a.out
 go_wp2_with fail
 generalize w3.alloc (AC x hw (.slice s10 P.length k10) (.slice s20 L.length k20) st c) = w3a at *
 refine (TO.out _ D3a.out).mono ?_
 rintro e w4 ⟨c1, c2, rs2, rfl, e2, o2, bl4⟩
 have D4 := Lib.hid (bT D3a.out bl4)
 have A4 := Lib.hid (A3a.out.trans (bl4.mono (by omega)))
 have E4 := Lib.hid e2
 have O4 := Lib.hid o2
 have V4 := Lib.hid (V3a.out.below bl4 (by omega) (Nat.le_refl _))
 have X4 := Lib.hid ((bl4.block w3.heap.size (by omega)).trans X3.out)
 have hs4 := bl4.size
 have N4 := Lib.hid (bA0 w4 (.cells #[.slice (some ⟨c1, 0, none⟩) n n, .slice (some ⟨c2, 0, none⟩) m m] 26))
 have Y4 := Lib.hid (new_at w4 (.cells #[.slice (some ⟨c1, 0, none⟩) n n, .slice (some ⟨c2, 0, none⟩) m m] 26))
 have HSB := Lib.hid (show (w4.alloc (.cells #[.slice (some ⟨c1, 0, none⟩) n n, .slice (some ⟨c2, 0, none⟩) m m] 26)).heap.size = w4.heap.size + 1 by simp)
 have D4a := Lib.hid (bT D4.out N4.out)
 clear e2 o2 bl4 A3a D3a V3a X3 t0 t1 tl
 go_wp2_with fail
 generalize w4.alloc (.cells #[.slice (some ⟨c1, 0, none⟩) n n, .slice (some ⟨c2, 0, none⟩) m m] 26) = w4a at *
 refine (TP.out _ D4a.out).mono ?_
 rintro e w5 ⟨rfl, i5, bl5⟩
 have G5 := Lib.hid (bT N4.out bl5)
 have Z5 := Lib.hid i5
 have Y5 := Lib.hid ((bl5.block w4.heap.size (by have := HSB.out; omega)).trans Y4.out)
 have hz5 := Z5.out.lt
 have D5 := Lib.hid (bT D4a.out bl5)
 have hs5 := bl5.size
 have T6 := Lib.hid (IM.out c1 c2 rs2 _ _ w5 D5.out E4.out (O4.out.below G5.out) i5)
 clear i5 bl5 N4 Y4 D4a
 obtain ⟨y0, y1⟩ := TabAtD.cells (show TabAtD w5 w4.heap.size (some ⟨c1, 0, none⟩) n n (some ⟨c2, 0, none⟩) m m from Y5.out)
 have yl := TabAtD.lt (show TabAtD w5 w4.heap.size (some ⟨c1, 0, none⟩) n n (some ⟨c2, 0, none⟩) m m from Y5.out)
 go_wp2_with fail
 refine T6.out.mono ?_
 rintro e w6 ⟨vp6, vl6, rfl, q6, bl6⟩
 obtain ⟨s16, k16, s26, k26, rfl, rfl⟩ := q6.form
 have G6 := Lib.hid (bT G5.out bl6)
 have R6 := Lib.hid q6
 have Z6 := Lib.hid (Z5.out.below bl6)
 have hs6 := bl6.size
 have X6 := Lib.hid (new_at w6 (AC x hw (.slice s16 P.length k16) (.slice s26 L.length k26) st c))
 have N6 := Lib.hid (bA0 w6 (AC x hw (.slice s16 P.length k16) (.slice s26 L.length k26) st c))
 have hsc : (w6.alloc (AC x hw (.slice s16 P.length k16) (.slice s26 L.length k26) st c)).heap.size = w6.heap.size + 1 := by simp
 have G6a := Lib.hid (bT G6.out N6.out)
 have Y6 := Lib.hid ((bl6.block w4.heap.size yl).trans Y5.out)
 clear q6 bl6 T6 G5 Y5 y0 y1 yl D5
 have R6a := Lib.hid (R6.out.below N6.out)
 have V6a := Lib.hid (V4.out.below G6a.out (by have := HSB.out; omega) (Nat.le_refl _))
 have P6a := Lib.hid ((G6a.out.block w3.heap.size (by have := HSB.out; omega)).trans X4.out)
 obtain ⟨p0, p1, p2, p3, p4, p5, pl⟩ := cells6a P6a.out
 obtain ⟨r0, r1, r2, r3, r4, r5, rl⟩ := cells6a X6.out
 have T7 := Lib.hid (EA.out _ _ (.slice s10 P.length k10) (.slice s20 L.length k20) (.slice s16 P.length k16) (.slice s26 L.length k26) _ R6a.out V6a.out)
 have Y6a := Lib.hid ((N6.out.block w4.heap.size (Array.getElem?_eq_some_iff.1 Y6.out).1).trans Y6.out)
 have Z6a := Lib.hid (Z6.out.below N6.out)
 clear V4 X4 G6 R6 N6 Y6 Z5 Z6
 go_wp2_with fail
 generalize w6.alloc (AC x hw (.slice s16 P.length k16) (.slice s26 L.length k26) st c) = w6a at *
 refine T7.out.mono ?_
 rintro e w7 ⟨rfl, bl7⟩
 have G7 := Lib.hid (bT G6a.out bl7)
 have D7 := Lib.hid (bT D4.out G7.out)
 have A7 := Lib.hid (A4.out.trans (G7.out.mono (by have := HSB.out; omega)))
 have R7 := Lib.hid (R6a.out.below bl7)
 have V7 := Lib.hid (V6a.out.below bl7 (by have := HSB.out; omega) (Nat.le_refl _))
 have P7 := Lib.hid ((bl7.block w3.heap.size pl).trans P6a.out)
 have X7 := Lib.hid ((bl7.block w6.heap.size rl).trans X6.out)
 have Y7 := Lib.hid ((bl7.block w4.heap.size (Array.getElem?_eq_some_iff.1 Y6a.out).1).trans Y6a.out)
 have Z7 := Lib.hid (Z6a.out.below bl7)
 have hs7 := bl7.size
 clear bl7 T7 G6a R6a V6a P6a X6 Y6a Z6a p0 p1 p2 p3 p4 p5 pl r0 r1 r2 r3 r4 r5 rl
 have KX : Hid (∀ W, Below w7.heap.size w7 W → w.heap.size < W.heap.size ∧ w4.heap.size < W.heap.size ∧ W.cell? ⟨w.heap.size, 0, none⟩ = some (.slice sl n cap) ∧ W.cell? ⟨w.heap.size, 1, none⟩ = some (.slice sl2 m cap2) ∧ W.cell? ⟨w4.heap.size, 0, none⟩ = some (.slice (some ⟨c1, 0, none⟩) n n) ∧ W.cell? ⟨w4.heap.size, 1, none⟩ = some (.slice (some ⟨c2, 0, none⟩) m m)) := fun W hW => by
  obtain ⟨k1, k2, k3⟩ := KT.out W (A7.out.trans (hW.mono (by have := HSB.out; omega)))
  have yb : TabAtD W w4.heap.size (some ⟨c1, 0, none⟩) n n (some ⟨c2, 0, none⟩) m m := (hW.block _ (Array.getElem?_eq_some_iff.1 Y7.out).1).trans Y7.out
  obtain ⟨k4, k5⟩ := yb.cells
  exact ⟨k1, yb.lt, k2, k3, k4, k5⟩
 go_wp2_with fail
 refine wp_region_held_drew (S := fun W => w.heap.size < W.heap.size ∧ w4.heap.size < W.heap.size ∧ W.cell? ⟨w.heap.size, 0, none⟩ = some (.slice sl n cap) ∧ W.cell? ⟨w.heap.size, 1, none⟩ = some (.slice sl2 m cap2) ∧ W.cell? ⟨w4.heap.size, 0, none⟩ = some (.slice (some ⟨c1, 0, none⟩) n n) ∧ W.cell? ⟨w4.heap.size, 1, none⟩ = some (.slice (some ⟨c2, 0, none⟩) m m)) (by kernel_rfl) ?_ (fun hHeld => ?_)
 ·exact KX.out _ (Below.refl _ _).drew
 refine tw (i := 0) rfl ?_
 refine tw (i := 1) rfl ?_
 try simp only [Act.put, List.setIfInBounds_toArray, List.set_cons_zero, List.set_cons_succ, List.getElem_toArray, List.getElem_cons_succ, List.getElem_cons_zero]
 refine wpAnyH_ready (rs := [2]) (by kernel_rfl) (by simp) ?_
 refine AllReadyH.cons rfl (fun K hK => ?_) AllReadyH.nil
 go_simp
 go_wp2_with (go_at_call 19; refine (TO.out _ D7.out.drew).mono ?_; rintro e w8 ⟨d1, d2, rs3, rfl, e3, o3, bl8⟩)
 have F8 : Hid (Below w7.heap.size w7 w8) := bT ((Below.refl w7.heap.size w7).drew) bl8
 have O8 := Lib.hid o3
 have E8 := Lib.hid e3
 clear bl8 o3 e3
 refine hK.out _ _ ?_ (fun hHeld => ?_)
 ·exact KX.out _ F8.out
 clear hK K
 refine wpAnyH_ready (rs := [3]) (by kernel_rfl) (by simp) ?_
 refine AllReadyH.cons rfl (fun K hK => ?_) AllReadyH.nil
 go_simp
 go_wp2_with (go_at_call 23; refine (TE.out c1 c2 rs2 d1 d2 rs3 _ E4.out E8.out (((O4.out.below G7.out).below F8.out).sts) (((O4.out.below G7.out).below F8.out).prs) O8.out.sts O8.out.prs).mono ?_; rintro e w9 ⟨rfl, bl9⟩)
 have F9 : Hid (Below w7.heap.size w7 w9) := bT F8.out bl9
 clear bl9
 refine hK.out _ _ ?_ (fun hHeld => ?_)
 ·exact KX.out _ F9.out
 clear hK K
 refine tw (i := 4) rfl ?_
 try simp only [Act.put, List.setIfInBounds_toArray, List.set_cons_zero, List.set_cons_succ, List.getElem_toArray, List.getElem_cons_succ, List.getElem_cons_zero]
 refine wpAnyH_done (by kernel_rfl) ?_ _
 have G9 := Lib.hid (bT G7.out F9.out)
 have D9 := Lib.hid (bT D7.out F9.out)
 have A9 := Lib.hid (A7.out.trans (F9.out.mono (by have := HSB.out; omega)))
 have R9 := Lib.hid (R7.out.below F9.out)
 have V9 := Lib.hid (V7.out.below F9.out (by have := HSB.out; omega) (Nat.le_refl _))
 have P9 := Lib.hid ((F9.out.block w3.heap.size (Array.getElem?_eq_some_iff.1 P7.out).1).trans P7.out)
 have X9 := Lib.hid ((F9.out.block w6.heap.size (Array.getElem?_eq_some_iff.1 X7.out).1).trans X7.out)
 have Y9 := Lib.hid ((F9.out.block w4.heap.size (Array.getElem?_eq_some_iff.1 Y7.out).1).trans Y7.out)
 have Z9 := Lib.hid (Z7.out.below F9.out)
 have hs9 := F9.out.size
 clear F9 F8 KX O8 E8 TE G7 D7 A7 R7 V7 P7 X7 Y7 Z7
 go_wp2_with fail
 refine (TP.out _ D9.out).mono ?_
 rintro e w10 ⟨rfl, i10, bl10⟩
 have T11 := Lib.hid (EQ.out _ _ w10 (Z9.out.below bl10) i10)
 have F10 := Lib.hid bl10
 clear i10 bl10
 go_wp2_with fail
 refine T11.out.mono ?_
 rintro e w11 ⟨rfl, bl11⟩
 have F11 := Lib.hid (bT F10.out bl11)
 have G11 := Lib.hid (bT G9.out F11.out)
 have D11 := Lib.hid (bT D9.out F11.out)
 have A11 := Lib.hid (A9.out.trans (F11.out.mono (by have := HSB.out; omega)))
 have R11 := Lib.hid (R9.out.below F11.out)
 have V11 := Lib.hid (V9.out.below F11.out (by have := HSB.out; omega) (Nat.le_refl _))
 have P11 := Lib.hid ((F11.out.block w3.heap.size (Array.getElem?_eq_some_iff.1 P9.out).1).trans P9.out)
 have X11 := Lib.hid ((F11.out.block w6.heap.size (Array.getElem?_eq_some_iff.1 X9.out).1).trans X9.out)
 have Y11 := Lib.hid ((F11.out.block w4.heap.size (Array.getElem?_eq_some_iff.1 Y9.out).1).trans Y9.out)
 have Z11 := Lib.hid (Z9.out.below F11.out)
 have hs11 := F11.out.size
 clear bl11 F10 F11 T11 G9 D9 A9 R9 V9 P9 X9 Y9 Z9 EQ
 have M12 := Lib.hid (MT.out _ c1 c2 rs2 w4 w11 E4.out O4.out G11.out)
 obtain ⟨y0, y1⟩ := TabAtD.cells (show TabAtD w11 w4.heap.size (some ⟨c1, 0, none⟩) n n (some ⟨c2, 0, none⟩) m m from Y11.out)
 have yl := TabAtD.lt (show TabAtD w11 w4.heap.size (some ⟨c1, 0, none⟩) n n (some ⟨c2, 0, none⟩) m m from Y11.out)
 go_wp2_with fail
 refine M12.out.mono ?_
 rintro e w12 ⟨k, ⟨k0, k1⟩, rfl, g12⟩
 have D12 := Lib.hid (D11.out.trans ((g12.below (by have := HSB.out; omega)).mono (by have := HSB.out; omega)))
 have A12 := Lib.hid (A11.out.trans ((g12.below (by have := HSB.out; omega)).mono (by have := HSB.out; omega)))
 have R12 := Lib.hid (R11.out.btw g12 (by have := HSB.out; omega))
 have V12 := Lib.hid (V11.out.btw g12 (by have := HSB.out; omega))
 have P12 := Lib.hid ((g12.block w3.heap.size (Array.getElem?_eq_some_iff.1 P11.out).1 (.inl (by have := HSB.out; omega))).trans P11.out)
 have X12 := Lib.hid ((g12.block w6.heap.size (Array.getElem?_eq_some_iff.1 X11.out).1 (.inr (by have := HSB.out; omega))).trans X11.out)
 have Z12 := Lib.hid (Z11.out.frame (g12.block w4a.heap.size Z11.out.lt (.inr (by have := HSB.out; omega))))
 have hs12 := g12.size
 clear g12 M12 MT G11 D11 A11 R11 V11 P11 X11 Y11 Z11 y0 y1 yl O4 E4
 go_wp2_with fail
 refine (MI.out _ _ _ k0 (by have := HSB.out; omega) Z12.out).mono ?_
 rintro e w13 ⟨rfl, o13⟩
 have g13 := btw_only o13
 have D13 := Lib.hid (D12.out.trans ((g13.below (by have := HSB.out; have := Z12.out.lt; omega)).mono (by have := HSB.out; omega)))
 have A13 := Lib.hid (A12.out.trans ((g13.below (by have := HSB.out; have := Z12.out.lt; omega)).mono (by have := HSB.out; omega)))
 have R13 := Lib.hid (R12.out.btw g13 (by have := HSB.out; omega))
 have V13 := Lib.hid (V12.out.btw g13 (by have := HSB.out; omega))
 have P13 := Lib.hid ((g13.block w3.heap.size (Array.getElem?_eq_some_iff.1 P12.out).1 (.inl (by have := HSB.out; omega))).trans P12.out)
 have X13 := Lib.hid ((g13.block w6.heap.size (Array.getElem?_eq_some_iff.1 X12.out).1 (.inr (by have := HSB.out; omega))).trans X12.out)
 have hs13 := g13.size
 have hkn : ¬ (k + 2 * (q : Int)) < 0 := by omega
 clear g13 o13 MI D12 A12 R12 V12 P12 X12 Z12
 obtain ⟨p0, p1, p2, p3, p4, p5, pl⟩ := cells6a P13.out
 obtain ⟨r0, r1, r2, r3, r4, r5, rl⟩ := cells6a X13.out
 generalize k + 2 * (q : Int) = kz at *
 go_wp2_with fail
 refine (EA.out _ _ (.slice s10 P.length k10) (.slice s20 L.length k20) (.slice s16 P.length k16) (.slice s26 L.length k26) w13 R13.out V13.out).mono ?_
 rintro e w14 ⟨rfl, bl14⟩
 have D14 := Lib.hid (bT D13.out bl14)
 have A14 := Lib.hid (A13.out.trans (bl14.mono (by have := HSB.out; omega)))
 have R14 := Lib.hid (R13.out.below bl14)
 have V14 := Lib.hid (V13.out.below bl14 (by have := HSB.out; omega) (Nat.le_refl _))
 have P14 := Lib.hid ((bl14.block w3.heap.size pl).trans P13.out)
 have X14 := Lib.hid ((bl14.block w6.heap.size rl).trans X13.out)
 have hs14 := bl14.size
 clear bl14 D13 A13 R13 V13 P13 X13 p0 p1 p2 p3 p4 p5 pl r0 r1 r2 r3 r4 r5 rl
 obtain ⟨r0, r1, r2, r3, r4, r5, rl⟩ := cells6a X14.out
 go_wp2_with fail
 refine (MA.out _ (.slice s16 P.length k16) (.slice s26 L.length k26) w14 R14.out (by have := HSB.out; omega)).mono ?_
 rintro e w15 ⟨rfl, m15, bl15, k15⟩
 have D15 := Lib.hid (D14.out.trans (bl15.mono (by have := HSB.out; omega)))
 have A15 := Lib.hid (A14.out.trans (bl15.mono (by have := HSB.out; omega)))
 have V15 := Lib.hid (V14.out.below bl15 (by have := HSB.out; omega) (by have := HSB.out; omega))
 have P15 := Lib.hid (k15 _ _ P14.out)
 have X15 := Lib.hid (k15 _ _ X14.out)
 have M15 := Lib.hid m15
 have hs15 := bl15.size
 clear bl15 k15 m15 D14 A14 R14 V14 P14 X14 r0 r1 r2 r3 r4 r5 rl MA
 obtain ⟨r0, r1, r2, r3, r4, r5, rl⟩ := cells6a X15.out
 go_wp2_with fail
 refine (HA.out _ (.slice s16 P.length k16) (.slice s26 L.length k26) w15 M15.out).mono ?_
 rintro e w16 ⟨rfl, bl16⟩
 have D16 := Lib.hid (bT D15.out bl16)
 have A16 := Lib.hid (A15.out.trans (bl16.mono (by have := HSB.out; omega)))
 have V16 := Lib.hid (V15.out.below bl16 (by have := HSB.out; omega) (Nat.le_refl _))
 have P16 := Lib.hid ((bl16.block w3.heap.size (Array.getElem?_eq_some_iff.1 P15.out).1).trans P15.out)
 have X16 := Lib.hid ((bl16.block w6.heap.size rl).trans X15.out)
 have M16 := Lib.hid (M15.out.below bl16)
 have hs16 := bl16.size
 clear bl16 D15 A15 V15 P15 X15 M15 r0 r1 r2 r3 r4 r5 rl
 obtain ⟨tl, t0, t1⟩ := KT.out _ A16.out
 go_wp2_with fail
 refine (TO.out _ D16.out).mono ?_
 rintro e w17 ⟨f1, f2, rs4, rfl, e4, o4, bl17⟩
 have F17 := Lib.hid bl17
 have D17 := Lib.hid (bT D16.out bl17)
 have O17 := Lib.hid o4
 have E17 := Lib.hid e4
 clear e4 o4 bl17 t0 t1 tl
 go_wp2_with fail
 refine (TP.out _ D17.out).mono ?_
 rintro e w18 ⟨rfl, i18, bl18⟩
 have F18 := Lib.hid (bT F17.out bl18)
 have D18 := Lib.hid (bT D17.out bl18)
 have T19 := Lib.hid (IM.out f1 f2 rs4 _ _ w18 D18.out E17.out (O17.out.below bl18) i18)
 clear i18 bl18 O17 E17 F17 D17
 go_wp2_with fail
 refine T19.out.mono ?_
 rintro e w19 ⟨vp19, vl19, rfl, q19, bl19⟩
 obtain ⟨s19, k19, s29, k29, rfl, rfl⟩ := q19.form
 have F19 := Lib.hid (bT F18.out bl19)
 have X19 := Lib.hid (new_at w19 (AC x hw (.slice s19 P.length k19) (.slice s29 L.length k29) st c))
 have N19 := Lib.hid (bA0 w19 (AC x hw (.slice s19 P.length k19) (.slice s29 L.length k29) st c))
 have F19a := Lib.hid (bT F19.out N19.out)
 have R19 := Lib.hid (q19.below N19.out)
 have D19 := Lib.hid (bT D16.out F19a.out)
 have V19 := Lib.hid (V16.out.below F19a.out (by have := HSB.out; omega) (Nat.le_refl _))
 have P19 := Lib.hid ((F19a.out.block w3.heap.size (Array.getElem?_eq_some_iff.1 P16.out).1).trans P16.out)
 have X16a := Lib.hid ((F19a.out.block w6.heap.size (Array.getElem?_eq_some_iff.1 X16.out).1).trans X16.out)
 have M19 := Lib.hid (M16.out.below F19a.out)
 have T20 := Lib.hid (EA.out _ _ (.slice s10 P.length k10) (.slice s20 L.length k20) (.slice s19 P.length k19) (.slice s29 L.length k29) _ R19.out V19.out)
 clear q19 bl19 T19 F18 F19 N19 F19a D16 V16 P16 X16 M16 D18
 obtain ⟨p0, p1, p2, p3, p4, p5, pl⟩ := cells6a P19.out
 obtain ⟨r0, r1, r2, r3, r4, r5, rl⟩ := cells6a X19.out
 go_wp2_with fail
 generalize w19.alloc (AC x hw (.slice s19 P.length k19) (.slice s29 L.length k29) st c) = w19a at *
 refine T20.out.mono ?_
 rintro e w20 ⟨rfl, bl20⟩
 have D20 := Lib.hid (bT D19.out bl20)
 have M20 := Lib.hid (M19.out.below bl20)
 have X20 := Lib.hid ((bl20.block w6.heap.size (Array.getElem?_eq_some_iff.1 X16a.out).1).trans X16a.out)
 clear bl20 T20 D19 M19 X16a X19 P19 V19 R19 p0 p1 p2 p3 p4 p5 pl r0 r1 r2 r3 r4 r5 rl
 obtain ⟨r0, r1, r2, r3, r4, r5, rl⟩ := cells6a X20.out
 go_wp2_with fail
 refine (HA.out _ (.slice s16 P.length k16) (.slice s26 L.length k26) w20 M20.out).mono ?_
 rintro e w21 ⟨rfl, bl21⟩
 have D21 := Lib.hid (bT D20.out bl21)
 clear bl21
 go_wp2
 go_ret
 exact ⟨rfl, D21.out⟩
end Go.Proofs.YtnihhbfgbilimaaGreatDoor
