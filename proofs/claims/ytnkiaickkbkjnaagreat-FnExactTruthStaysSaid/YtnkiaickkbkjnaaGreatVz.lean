/-
  ARE VALUES RIGHT FOR A STAGE? Both sides, over what they say of the stage.
  THE LAW FnExactValuesRight: the walk.
-/
import Derived.Test.YtnkiaickkbkjnaaGreatEz
import Derived.Test.YtnkiaickkbkjnaaGreatVa
import Derived.Test.YtnkiaickkbkjnaaGreatEd
import Derived.Test.YtnkiaickkbkjnaaGreatTs
import Derived.Test.YtnkiaickkbkjnaaGreatTv
namespace Go.Proofs.YtnkiaickkbkjnaaGreat
open Go.RowKit
set_option linter.unusedVariables false

/-- The first k values are those of the Bids at their places. -/
def ValTo (bs : List LPr) (vs : List LPl) (k : Nat) : Prop := ∀ i x b, i < k → vs[i]? = some x → bs[i]? = some b → x.1 = b.1 ∧ NouR x.2
/-- Right values (R: the stage is right). -/
def ValR (R : Prop) (bs : List LPr) (vs : List LPl) : Prop := vs.length ≤ 400 ∧ R ∧ vs.length = bs.length ∧ ValTo bs vs vs.length
theorem cellsP2 {w : World} {b : Nat} {t : TypeId} {a0 a1 : Value} (h : w.heap[b]? = some (.cells #[a0, a1] t)) :
    w.cell? ⟨b, 0, none⟩ = some a0 ∧ w.cell? ⟨b, 1, none⟩ = some a1 ∧ (∀ o, w.frozen? ⟨b, o, none⟩ = false) ∧ b < w.heap.size := by
  refine ⟨?_, ?_, fun o => ?_, (Array.getElem?_eq_some_iff.1 h).1⟩ <;> simp [World.cell?, World.frozen?, h]
theorem ValTo.zero (bs : List LPr) (vs : List LPl) : ValTo bs vs 0 := fun i x b h => absurd h (Nat.not_lt_zero _)
theorem ValTo.step {bs : List LPr} {vs : List LPl} {k : Nat} (h : ValTo bs vs k) (h1 : k < vs.length) (h2 : k < bs.length) (g : vs[k].1 = bs[k].1 ∧ NouR vs[k].2) : ValTo bs vs (k + 1) := fun i x b hi e1 e2 => by
  by_cases e : i < k
  · exact h i x b e e1 e2
  · have e' : i = k := by omega
    subst e'
    rw [List.getElem?_eq_getElem h1] at e1
    rw [List.getElem?_eq_getElem h2] at e2
    cases e1
    cases e2
    exact g

set_option maxRecDepth 100000 in
set_option maxHeartbeats 8000000 in
/-- impl.ValuesRight. -/
theorem ivr_of (sl : Option Addr) (n cap : Nat) (tl : Option Addr) (m kap : Nat) (top pr st bu : Int) (bl : Option Addr) (cb : Nat) (pl : Option Addr) (p cp : Nat) (ul : Option Addr) (u cu : Nat) (ai fx : Int) (gc gf : Bool) (bs : List LPr) (vl : Option Addr) (cv : Nat) (vs : List LPl) (R : Prop) (w : World) (hq : bs.length ≤ 1048576) (hv : vs.length ≤ 1048576) (hbs : Prs w bl bs) (hvs : Pls w vl vs)
    (SR : Hid (∀ W, Below w.heap.size w W → Calls Tryz.prog 27 #[SgV sl n cap tl m kap top pr st bu bl bs.length cb pl p cp ul u cu ai fx gc gf] W fun e w' => e = .returned (.bool (B R)) ∧ Below W.heap.size W w')) :
    Calls Tryz.prog 10 #[SgV sl n cap tl m kap top pr st bu bl bs.length cb pl p cp ul u cu ai fx gc gf, .slice vl vs.length cv] w fun e w' => e = .returned (.bool (B (ValR R bs vs))) ∧ Below w.heap.size w w' := by
  have F1 := Lib.hid (show ¬ vs.length ≤ 400 → B (ValR R bs vs) = false from fun g => B_no (fun h => g h.1))
  have F2 := Lib.hid (show B R = false → B (ValR R bs vs) = false from fun g => B_no (fun h => B_false g h.2.1))
  have F3 := Lib.hid (show ¬ vs.length = bs.length → B (ValR R bs vs) = false from fun g => B_no (fun h => g h.2.2.1))
  have NN := Lib.hid (show ∀ i x b, vs[i]? = some x → bs[i]? = some b → ¬ (x.1 = b.1 ∧ NouR x.2) → B (ValR R bs vs) = false from fun i x b h1 h2 g => B_no (fun h => g (h.2.2.2 i x b (List.getElem?_eq_some_iff.1 h1).1 h1 h2)))
  have YY := Lib.hid (show vs.length ≤ 400 → B R = true → vs.length = bs.length → ValTo bs vs vs.length → B (ValR R bs vs) = true from fun g1 g2 g3 g4 => B_yes ⟨g1, B_true g2, g3, g4⟩)
  have HB := Lib.hid hbs
  have HV := Lib.hid hvs
  clear hbs hvs
  generalize B (ValR R bs vs) = r at *
  generalize B R = r1 at *
  generalize hQ : bs.length = q at *
  generalize hA : vs.length = a at *
  have HQ := Lib.hid hQ
  have HA := Lib.hid hA
  clear hQ hA
  have B0 := Lib.hid (bA0 w (.cells (SgC sl n cap tl m kap top pr st bu bl q cb pl p cp ul u cu ai fx gc gf) 46))
  have N0 := Lib.hid (new_at w (.cells (SgC sl n cap tl m kap top pr st bu bl q cb pl p cp ul u cu ai fx gc gf) 46))
  have hS : (w.alloc (.cells (SgC sl n cap tl m kap top pr st bu bl q cb pl p cp ul u cu ai fx gc gf) 46)).heap.size = w.heap.size + 1 := by simp
  have KC : Hid (∀ W, Below (w.heap.size + 1) (w.alloc (.cells (SgC sl n cap tl m kap top pr st bu bl q cb pl p cp ul u cu ai fx gc gf) 46)) W → W.heap[w.heap.size]? = some (.cells (SgC sl n cap tl m kap top pr st bu bl q cb pl p cp ul u cu ai fx gc gf) 46)) := fun W hW => (hW.block w.heap.size (by omega)).trans N0.out
  clear N0
  by_cases h4 : a ≤ 400
  case neg =>
    have HF := F1.out h4
    subst HF
    have h4' : (400 : Int) < (a : Int) := by omega
    clear F1 F2 F3 NN YY SR HB HV HQ HA KC
    go_enter Tryz.func10, Tryz.ntmps10
    go_wp2
    go_ret
    exact ⟨rfl, B0.out⟩
  have h4' : ¬ (400 : Int) < (a : Int) := by omega
  go_enter Tryz.func10, Tryz.ntmps10
  go_wp2_with fail
  refine (SR.out _ B0.out).mono ?_
  rintro e w1 ⟨rfl, b1⟩
  have D1 := Lib.hid (bT B0.out b1)
  have hS1 := b1.size
  have K1 : Hid (∀ W, Below w1.heap.size w1 W → W.heap[w.heap.size]? = some (.cells (SgC sl n cap tl m kap top pr st bu bl q cb pl p cp ul u cu ai fx gc gf) 46)) := fun W hW => KC.out W ((show Below (w.heap.size + 1) _ w1 by rw [← hS]; exact b1).trans (hW.mono (by omega)))
  obtain ⟨c0, c1, c2, c3, c4, c5, c6, c7, c8, c9, c10, c11, c12, cf, cl⟩ := cells13 (K1.out w1 (Below.refl _ _))
  clear b1 KC hS B0 SR
  cases r1
  · have HF := F2.out (by trivial)
    subst HF
    clear F1 F2 F3 NN YY HB HV HQ HA
    go_wp2
    go_ret
    exact ⟨rfl, D1.out⟩
  by_cases g3 : a = q
  case neg =>
    have HF := F3.out g3
    subst HF
    have g3' : ((a : Int) != (q : Int)) = true := by simpa using (by omega : ¬ (a : Int) = (q : Int))
    clear F1 F2 F3 NN YY HB HV HQ HA
    go_wp2
    go_ret
    exact ⟨rfl, D1.out⟩
  subst g3
  clear F1 F2 F3
  go_wp2
  go_loopw [26] (fun i wr => ∃ k : Nat, i = .int .i64 k ∧ k ≤ a ∧ Hid (ValTo bs vs k) ∧ Hid (Below w1.heap.size w1 wr)) (fun i _ => a - (intOf i).toNat)
  case atStart => exact ⟨0, rfl, Nat.zero_le _, ValTo.zero bs vs, Below.refl _ _⟩
  case round =>
    obtain ⟨k, rfl, hk, H1, H2⟩ := hrel
    have hk0 : (0 : Int) ≤ (k : Int) := by omega
    by_cases h1 : k < a
    · have h1' : (k : Int) < (a : Int) := by omega
      have hlt : k < bs.length := by rw [HQ.out]; exact h1
      have hlv : k < vs.length := by rw [HA.out]; exact h1
      obtain ⟨g, o, rfl, ZI⟩ : ∃ c o, bl = some ⟨c, o, none⟩ ∧ PrAt w c o bs := by
        rcases HB.out with e | h
        · rw [e] at hlt; simp at hlt
        · exact h
      obtain ⟨g', o', rfl, ZV⟩ : ∃ c o, vl = some ⟨c, o, none⟩ ∧ PlAt w c o vs := by
        rcases HV.out with e | h
        · rw [e] at hlv; simp at hlv
        · exact h
      have H3 := Lib.hid (bT D1.out H2.out)
      obtain ⟨e0, -, -⟩ := (ZI.below H3.out).cell k hlt
      have zl := (ZI.below H3.out).lt
      obtain ⟨f0, f1⟩ := (ZV.below H3.out).cell k hlv
      have zv := (ZV.below H3.out).lt
      have N1 := Lib.hid (NN.out k _ _ (List.getElem?_eq_getElem hlv) (List.getElem?_eq_getElem hlt))
      have S1 := Lib.hid (H1.out.step hlv hlt)
      obtain ⟨x, y, hp⟩ : ∃ a b, vs[k] = (a, b) := ⟨_, _, rfl⟩
      rw [hp] at f0 f1 N1 S1
      generalize bs[k].1 = z at *
      dsimp only at f0 f1 N1 S1
      have m13 := K1.out wr H2.out
      clear hp hlt hlv ZI ZV H1 YY NN HB HV HQ HA c0 c1 c2 c3 c4 c5 c6 c7 c8 c9 c10 c11 c12 cf cl
      obtain ⟨c0, c1, c2, c3, c4, c5, c6, c7, c8, c9, c10, c11, c12, cf, cl⟩ := cells13 m13
      have EN : Hid (∀ W, Calls Tryz.prog 28 #[.int .i64 y] W fun e w' => e = .returned (.bool (B (NouR y))) ∧ w' = W) := fun W => (nou_any y W).mono fun e w' ⟨h, h'⟩ => ⟨h, h'.symm⟩
      have N5 := new_at wr (.cells #[.int .i64 x, .int .i64 y] 61)
      have F5 := Lib.hid (bA0 wr (.cells #[.int .i64 x, .int .i64 y] 61))
      have d0 := (F5.out.cell (p := ⟨g, o + k * 3, none⟩) zl).trans e0
      have zl' : g < (wr.alloc (.cells #[.int .i64 x, .int .i64 y] 61)).heap.size := Nat.lt_of_lt_of_le zl F5.out.size
      have m5 := (F5.out.block _ cl).trans m13
      obtain ⟨a0, a1, af, al⟩ := cellsP2 N5
      go_wp2_with fail
      clear c0 c1 c2 c3 c4 c5 c6 c7 c8 c9 c10 c11 c12 cf cl f0 f1 zv e0 zl m13 N5
      generalize wr.alloc (.cells #[.int .i64 x, .int .i64 y] 61) = w5 at *
      obtain ⟨c0, c1, c2, c3, c4, c5, c6, c7, c8, c9, c10, c11, c12, cf, cl⟩ := cells13 m5
      have DQ0 : Hid (∀ nq, Hid (Below w1.heap.size w1 (w5.drewN nq))) := fun nq => below_drewN (bT H2.out F5.out) nq
      have DR0 : Hid (∀ nq, Hid (Below w.heap.size w (w5.drewN nq))) := fun nq => below_drewN (bT H3.out F5.out) nq
      by_cases hx : x = z
      case neg =>
        have HF := N1.out (fun h => hx h.1)
        subst HF
        have hx' : (x != z) = true := by simpa using hx
        clear N1 S1 EN
        go_quiet (fail)
        go_wp2
        go_ret
        exact ⟨rfl, (DR0.out _).out⟩
      have hx' : (x != z) = false := by simpa using hx
      by_cases hy : NouR y
      case neg =>
        have HF := N1.out (fun h => hy h.2)
        subst HF
        rw [B_no hy] at EN
        clear N1 S1
        go_quiet (first | (go_at_call 28; exact Calls.quiet_of_same (EN.out _)))
        go_wp2
        go_ret
        exact ⟨rfl, (DR0.out _).out⟩
      have S2 := Lib.hid (S1.out ⟨hx, hy⟩)
      rw [B_yes hy] at EN
      clear N1 S1
      go_quiet (first | (go_at_call 28; exact Calls.quiet_of_same (EN.out _)))
      go_wp2
      go_roundw
      case rel => exact ⟨k + 1, by go_num, by omega, S2, DQ0.out _⟩
      case measure => simp [intOf]; omega
    · have h1' : ¬ (k : Int) < (a : Int) := by omega
      have e : k = a := by omega
      subst e
      have HE := YY.out h4 (by trivial) (by trivial) H1.out
      subst HE
      have H3 := Lib.hid (bT D1.out H2.out)
      clear H1 YY NN HB HV HQ HA
      go_wp2
      go_ret
      exact ⟨rfl, H3.out⟩

set_option maxRecDepth 100000 in
set_option maxHeartbeats 8000000 in
/-- spec.ValuesRight. -/
theorem svr_of (sl : Option Addr) (n cap : Nat) (tl : Option Addr) (m kap : Nat) (top pr st bu : Int) (bl : Option Addr) (cb : Nat) (pl : Option Addr) (p cp : Nat) (ul : Option Addr) (u cu : Nat) (ai fx : Int) (gc gf : Bool) (bs : List LPr) (vl : Option Addr) (cv : Nat) (vs : List LPl) (R : Prop) (w : World) (hq : bs.length ≤ 1048576) (hv : vs.length ≤ 1048576) (hbs : Prs w bl bs) (hvs : Pls w vl vs)
    (SR : Hid (∀ W, Below w.heap.size w W → Calls Tryz.prog 22 #[SgV sl n cap tl m kap top pr st bu bl bs.length cb pl p cp ul u cu ai fx gc gf] W fun e w' => e = .returned (.bool (B R)) ∧ Below W.heap.size W w')) :
    Calls Tryz.prog 7 #[SgV sl n cap tl m kap top pr st bu bl bs.length cb pl p cp ul u cu ai fx gc gf, .slice vl vs.length cv] w fun e w' => e = .returned (.bool (B (ValR R bs vs))) ∧ Below w.heap.size w w' := by
  have F1 := Lib.hid (show ¬ vs.length ≤ 400 → B (ValR R bs vs) = false from fun g => B_no (fun h => g h.1))
  have F2 := Lib.hid (show B R = false → B (ValR R bs vs) = false from fun g => B_no (fun h => B_false g h.2.1))
  have F3 := Lib.hid (show ¬ vs.length = bs.length → B (ValR R bs vs) = false from fun g => B_no (fun h => g h.2.2.1))
  have NN := Lib.hid (show ∀ i x b, vs[i]? = some x → bs[i]? = some b → ¬ (x.1 = b.1 ∧ NouR x.2) → B (ValR R bs vs) = false from fun i x b h1 h2 g => B_no (fun h => g (h.2.2.2 i x b (List.getElem?_eq_some_iff.1 h1).1 h1 h2)))
  have YY := Lib.hid (show vs.length ≤ 400 → B R = true → vs.length = bs.length → ValTo bs vs vs.length → B (ValR R bs vs) = true from fun g1 g2 g3 g4 => B_yes ⟨g1, B_true g2, g3, g4⟩)
  have HB := Lib.hid hbs
  have HV := Lib.hid hvs
  clear hbs hvs
  generalize B (ValR R bs vs) = r at *
  generalize B R = r1 at *
  generalize hQ : bs.length = q at *
  generalize hA : vs.length = a at *
  have HQ := Lib.hid hQ
  have HA := Lib.hid hA
  clear hQ hA
  have B0 := Lib.hid (bA0 w (.cells (SgC sl n cap tl m kap top pr st bu bl q cb pl p cp ul u cu ai fx gc gf) 46))
  have N0 := Lib.hid (new_at w (.cells (SgC sl n cap tl m kap top pr st bu bl q cb pl p cp ul u cu ai fx gc gf) 46))
  have hS : (w.alloc (.cells (SgC sl n cap tl m kap top pr st bu bl q cb pl p cp ul u cu ai fx gc gf) 46)).heap.size = w.heap.size + 1 := by simp
  have KC : Hid (∀ W, Below (w.heap.size + 1) (w.alloc (.cells (SgC sl n cap tl m kap top pr st bu bl q cb pl p cp ul u cu ai fx gc gf) 46)) W → W.heap[w.heap.size]? = some (.cells (SgC sl n cap tl m kap top pr st bu bl q cb pl p cp ul u cu ai fx gc gf) 46)) := fun W hW => (hW.block w.heap.size (by omega)).trans N0.out
  clear N0
  by_cases h4 : a ≤ 400
  case neg =>
    have HF := F1.out h4
    subst HF
    have h4' : (400 : Int) < (a : Int) := by omega
    clear F1 F2 F3 NN YY SR HB HV HQ HA KC
    go_enter Tryz.func7, Tryz.ntmps7
    go_wp2
    go_ret
    exact ⟨rfl, B0.out⟩
  have h4' : ¬ (400 : Int) < (a : Int) := by omega
  go_enter Tryz.func7, Tryz.ntmps7
  go_wp2_with fail
  refine (SR.out _ B0.out).mono ?_
  rintro e w1 ⟨rfl, b1⟩
  have D1 := Lib.hid (bT B0.out b1)
  have hS1 := b1.size
  have K1 : Hid (∀ W, Below w1.heap.size w1 W → W.heap[w.heap.size]? = some (.cells (SgC sl n cap tl m kap top pr st bu bl q cb pl p cp ul u cu ai fx gc gf) 46)) := fun W hW => KC.out W ((show Below (w.heap.size + 1) _ w1 by rw [← hS]; exact b1).trans (hW.mono (by omega)))
  obtain ⟨c0, c1, c2, c3, c4, c5, c6, c7, c8, c9, c10, c11, c12, cf, cl⟩ := cells13 (K1.out w1 (Below.refl _ _))
  clear b1 KC hS B0 SR
  cases r1
  · have HF := F2.out (by trivial)
    subst HF
    clear F1 F2 F3 NN YY HB HV HQ HA
    go_wp2
    go_ret
    exact ⟨rfl, D1.out⟩
  by_cases g3 : a = q
  case neg =>
    have HF := F3.out g3
    subst HF
    have g3' : ((a : Int) != (q : Int)) = true := by simpa using (by omega : ¬ (a : Int) = (q : Int))
    clear F1 F2 F3 NN YY HB HV HQ HA
    go_wp2
    go_ret
    exact ⟨rfl, D1.out⟩
  subst g3
  clear F1 F2 F3
  go_wp2
  go_loopw [5] (fun i wr => ∃ k : Nat, i = .int .i64 k ∧ k ≤ a ∧ Hid (ValTo bs vs k) ∧ Hid (Below w1.heap.size w1 wr)) (fun i _ => a - (intOf i).toNat)
  case atStart => exact ⟨0, rfl, Nat.zero_le _, ValTo.zero bs vs, Below.refl _ _⟩
  case round =>
    obtain ⟨k, rfl, hk, H1, H2⟩ := hrel
    have hk0 : (0 : Int) ≤ (k : Int) := by omega
    by_cases h1 : k < a
    · have h1' : (k : Int) < (a : Int) := by omega
      have hlt : k < bs.length := by rw [HQ.out]; exact h1
      have hlv : k < vs.length := by rw [HA.out]; exact h1
      obtain ⟨g, o, rfl, ZI⟩ : ∃ c o, bl = some ⟨c, o, none⟩ ∧ PrAt w c o bs := by
        rcases HB.out with e | h
        · rw [e] at hlt; simp at hlt
        · exact h
      obtain ⟨g', o', rfl, ZV⟩ : ∃ c o, vl = some ⟨c, o, none⟩ ∧ PlAt w c o vs := by
        rcases HV.out with e | h
        · rw [e] at hlv; simp at hlv
        · exact h
      have H3 := Lib.hid (bT D1.out H2.out)
      obtain ⟨e0, -, -⟩ := (ZI.below H3.out).cell k hlt
      have zl := (ZI.below H3.out).lt
      obtain ⟨f0, f1⟩ := (ZV.below H3.out).cell k hlv
      have zv := (ZV.below H3.out).lt
      have N1 := Lib.hid (NN.out k _ _ (List.getElem?_eq_getElem hlv) (List.getElem?_eq_getElem hlt))
      have S1 := Lib.hid (H1.out.step hlv hlt)
      obtain ⟨x, y, hp⟩ : ∃ a b, vs[k] = (a, b) := ⟨_, _, rfl⟩
      rw [hp] at f0 f1 N1 S1
      generalize bs[k].1 = z at *
      dsimp only at f0 f1 N1 S1
      have m13 := K1.out wr H2.out
      clear hp hlt hlv ZI ZV H1 YY NN HB HV HQ HA c0 c1 c2 c3 c4 c5 c6 c7 c8 c9 c10 c11 c12 cf cl
      obtain ⟨c0, c1, c2, c3, c4, c5, c6, c7, c8, c9, c10, c11, c12, cf, cl⟩ := cells13 m13
      have EN : Hid (∀ W, Calls Tryz.prog 23 #[.int .i64 y] W fun e w' => e = .returned (.bool (B (MonR y))) ∧ w' = W) := fun W => (mon_any y W).mono fun e w' ⟨h, h'⟩ => ⟨h, h'.symm⟩
      have DQ0 : Hid (∀ nq, Hid (Below w1.heap.size w1 (wr.drewN nq))) := fun nq => below_drewN H2.out nq
      have DR0 : Hid (∀ nq, Hid (Below w.heap.size w (wr.drewN nq))) := fun nq => below_drewN H3.out nq
      by_cases hx : x = z
      case neg =>
        have HF := N1.out (fun h => hx h.1)
        subst HF
        have hx' : (x != z) = true := by simpa using hx
        clear N1 S1 EN
        go_wp2_with fail
        go_quiet (fail)
        go_wp2
        go_ret
        exact ⟨rfl, (DR0.out _).out⟩
      have hx' : (x != z) = false := by simpa using hx
      by_cases hy0 : y < 0
      · have HF := N1.out (fun h => by have := h.2.1; omega)
        subst HF
        clear N1 S1 EN
        go_wp2_with fail
        go_quiet (fail)
        go_wp2
        go_ret
        exact ⟨rfl, (DR0.out _).out⟩
      by_cases hy : MonR y
      case neg =>
        have HF := N1.out (fun h => hy ⟨by have := h.2.1; omega, h.2.2⟩)
        subst HF
        rw [B_no hy] at EN
        clear N1 S1
        go_wp2_with fail
        go_quiet (first | (go_at_call 23; exact Calls.quiet_of_same (EN.out _)))
        go_wp2
        go_ret
        exact ⟨rfl, (DR0.out _).out⟩
      have S2 := Lib.hid (S1.out ⟨hx, by omega, hy.2⟩)
      rw [B_yes hy] at EN
      clear N1 S1
      go_wp2_with fail
      go_quiet (first | (go_at_call 23; exact Calls.quiet_of_same (EN.out _)))
      go_wp2
      go_roundw
      case rel => exact ⟨k + 1, by go_num, by omega, S2, DQ0.out _⟩
      case measure => simp [intOf]; omega
    · have h1' : ¬ (k : Int) < (a : Int) := by omega
      have e : k = a := by omega
      subst e
      have HE := YY.out h4 (by trivial) (by trivial) H1.out
      subst HE
      have H3 := Lib.hid (bT D1.out H2.out)
      clear H1 YY NN HB HV HQ HA
      go_wp2
      go_ret
      exact ⟨rfl, H3.out⟩

end Go.Proofs.YtnkiaickkbkjnaaGreat
namespace Go.Proofs.YtnkiaickkbkjnaaGreat
open Go.RowKit
set_option linter.unusedVariables false
theorem stg_bare {rs rs' : List LSt} (ps : List LPr) (top pr st bu : Int) (bs : List LPr) (ls : List LPl) (us : List Int) (ai fx : Int) (gc gf : Bool) (h : bareS rs = bareS rs') : B (StgR rs ps top pr st bu bs ls us ai fx gc gf) = B (StgR rs' ps top pr st bu bs ls us ai fx gc gf) := by
  have e := clk_bare ps top pr st bu bs ls h
  have e' : ClkR rs ps top pr st bu bs ls ↔ ClkR rs' ps top pr st bu bs ls := ⟨fun g => B_true (by rw [← e]; exact B_yes g), fun g => B_true (by rw [e]; exact B_yes g)⟩
  exact B_iff (by unfold StgR; rw [e'])
theorem val_bare {rs rs' : List LSt} (ps : List LPr) (top pr st bu : Int) (bs : List LPr) (ls : List LPl) (us : List Int) (ai fx : Int) (gc gf : Bool) (vs : List LPl) (h : bareS rs = bareS rs') : B (ValR (StgR rs ps top pr st bu bs ls us ai fx gc gf) bs vs) = B (ValR (StgR rs' ps top pr st bu bs ls us ai fx gc gf) bs vs) := by
  have e := stg_bare ps top pr st bu bs ls us ai fx gc gf h
  have e' : StgR rs ps top pr st bu bs ls us ai fx gc gf ↔ StgR rs' ps top pr st bu bs ls us ai fx gc gf := ⟨fun g => B_true (by rw [← e]; exact B_yes g), fun g => B_true (by rw [e]; exact B_yes g)⟩
  exact B_iff (by unfold ValR; rw [e'])

set_option maxRecDepth 100000 in
set_option maxHeartbeats 8000000 in
theorem law3 (sl : Option Addr) (cap : Nat) (tl : Option Addr) (kap : Nat) (top pr st bu : Int) (bl : Option Addr) (cb : Nat) (pl : Option Addr) (cp : Nat) (ul : Option Addr) (cu : Nat) (ai fx : Int) (gc gf : Bool) (rs : List LSt) (ps : List LPr) (bs : List LPr) (ls : List LPl) (us : List Int) (vl : Option Addr) (cv : Nat) (vs : List LPl) (w : World) (h : InSg w sl tl bl pl ul rs ps bs ls us) (hvs : Pls w vl vs) (hvl : vs.length ≤ maxLen) :
    Calls Tryz.prog 3 #[SgV sl rs.length cap tl ps.length kap top pr st bu bl bs.length cb pl ls.length cp ul us.length cu ai fx gc gf, .slice vl vs.length cv] w fun e w' => e = .returned (.bool true) ∧ Below w.heap.size w w' := by
  have SZ : Hid (∀ W, Below w.heap.size w W → Calls Tryz.prog 5 #[SgV sl rs.length cap tl ps.length kap top pr st bu bl bs.length cb pl ls.length cp ul us.length cu ai fx gc gf, .int .i64 1048576] W fun e w' => e = .returned (.int .i64 (lft 1048576 (rs.length + totD rs + ps.length + bs.length + ls.length + us.length))) ∧ Below W.heap.size W w') := fun W hW => szSg_any sl cap tl _ kap top pr st bu bl _ cb pl _ cp ul _ cu ai fx gc gf rs W h.c.t.ln h.c.t.lp h.c.lb h.c.ll h.lu (h.c.t.st.below hW)
  rcases lft_cases 1048576 (rs.length + totD rs + ps.length + bs.length + ls.length + us.length) (by omega) with ⟨e, hT⟩ | ⟨e, hT⟩
  · rw [e] at SZ
    clear h hvs e hT hvl
    generalize rs.length = n at *
    generalize ps.length = m at *
    generalize bs.length = q at *
    generalize ls.length = p at *
    generalize us.length = u at *
    generalize vs.length = a at *
    go_enter Tryz.func3, Tryz.ntmps3
    go_wp2_with fail
    refine (SZ.out _ (bA0 _ _)).mono ?_
    rintro e w1 ⟨rfl, b1⟩
    have D1 := Lib.hid (bT (bA0 w _) b1)
    clear b1
    go_wp2
    go_ret
    exact ⟨rfl, D1.out⟩
  rw [e] at SZ
  have SZ2 : Hid (∀ W, Calls Tryz.prog 6 #[.slice vl vs.length cv, .int .i64 (1048576 - ((rs.length + totD rs + ps.length + bs.length + ls.length + us.length : Nat) : Int))] W fun e w' => e = .returned (.int .i64 (lft (1048576 - ((rs.length + totD rs + ps.length + bs.length + ls.length + us.length : Nat) : Int)) vs.length)) ∧ w' = W) := fun W => szVl_any vl vs.length cv (1048576 - ((rs.length + totD rs + ps.length + bs.length + ls.length + us.length : Nat) : Int)) W hvl (by omega) (by omega)
  have hneg : ¬ (1048576 - ((rs.length + totD rs + ps.length + bs.length + ls.length + us.length : Nat) : Int)) < 0 := by omega
  rcases lft_cases (1048576 - ((rs.length + totD rs + ps.length + bs.length + ls.length + us.length : Nat) : Int)) vs.length (by omega) with ⟨e2, hT2⟩ | ⟨e2, hT2⟩
  · rw [e2] at SZ2
    clear h hvs e hT e2 hT2 hvl
    generalize (1048576 - ((rs.length + totD rs + ps.length + bs.length + ls.length + us.length : Nat) : Int)) = z at *
    generalize rs.length = n at *
    generalize ps.length = m at *
    generalize bs.length = q at *
    generalize ls.length = p at *
    generalize us.length = u at *
    generalize vs.length = a at *
    go_enter Tryz.func3, Tryz.ntmps3
    go_wp2_with fail
    refine (SZ.out _ (bA0 _ _)).mono ?_
    rintro e w1 ⟨rfl, b1⟩
    have D1 := Lib.hid (bT (bA0 w _) b1)
    clear b1
    go_wp2_with fail
    refine (SZ2.out _).mono ?_
    rintro e w2 ⟨rfl, rfl⟩
    go_wp2
    go_ret
    exact ⟨rfl, D1.out⟩
  rw [e2] at SZ2
  have hs : Sts w sl rs := h.c.t.st.small (by omega)
  have hn : rs.length ≤ 1048576 := by omega
  have hm : ps.length ≤ 1048576 := by omega
  have hq : bs.length ≤ 1048576 := by omega
  have hl : ls.length ≤ 1048576 := by omega
  have hu : us.length ≤ 1048576 := by omega
  have ha : vs.length ≤ 1048576 := by omega
  have hneg2 : ¬ ((1048576 - ((rs.length + totD rs + ps.length + bs.length + ls.length + us.length : Nat) : Int)) - (vs.length : Int)) < 0 := by omega
  have TO : Hid (∀ W, Below w.heap.size w W → Calls Tryz.prog 8 #[SgV sl rs.length cap tl ps.length kap top pr st bu bl bs.length cb pl ls.length cp ul us.length cu ai fx gc gf] W fun e w' => ∃ b1 b2 b3 b4 b5 rs', e = .returned (SgV (some ⟨b1, 0, none⟩) rs.length rs.length (some ⟨b2, 0, none⟩) ps.length ps.length top pr st bu (some ⟨b3, 0, none⟩) bs.length bs.length (some ⟨b4, 0, none⟩) ls.length ls.length (some ⟨b5, 0, none⟩) us.length us.length ai fx gc gf) ∧ bareS rs' = bareS rs ∧ OwnSg W.heap.size w' b1 b2 b3 b4 b5 rs' ps bs ls us ∧ Below W.heap.size W w') := fun W hW => toSg_any sl cap tl kap top pr st bu bl cb pl cp ul cu ai fx gc gf rs ps bs ls us W hn hm hq hl hu (hs.below hW) (h.c.t.pr.below hW) (h.c.bd.below hW) (h.c.pl.below hW) (h.ui.below hW)
  have TV : Hid (∀ W, Below w.heap.size w W → Calls Tryz.prog 9 #[.slice vl vs.length cv] W fun e w' => e = .returned (.slice (some ⟨W.heap.size, 0, none⟩) vs.length vs.length) ∧ RowV w' W.heap.size vs.length vs ∧ Below W.heap.size W w') := fun W hW => toVlS_any vl cv vs W ha (hvs.below hW)
  have TE : Hid (∀ b1 b2 b3 b4 b5 rs1 c1 c2 c3 c4 c5 rs2 C D W, bareS rs1 = bareS rs → bareS rs2 = bareS rs → OwnSg C W b1 b2 b3 b4 b5 rs1 ps bs ls us → OwnSg D W c1 c2 c3 c4 c5 rs2 ps bs ls us → Calls Tryz.prog 11 #[SgV (some ⟨b1, 0, none⟩) rs.length rs.length (some ⟨b2, 0, none⟩) ps.length ps.length top pr st bu (some ⟨b3, 0, none⟩) bs.length bs.length (some ⟨b4, 0, none⟩) ls.length ls.length (some ⟨b5, 0, none⟩) us.length us.length ai fx gc gf, SgV (some ⟨c1, 0, none⟩) rs.length rs.length (some ⟨c2, 0, none⟩) ps.length ps.length top pr st bu (some ⟨c3, 0, none⟩) bs.length bs.length (some ⟨c4, 0, none⟩) ls.length ls.length (some ⟨c5, 0, none⟩) us.length us.length ai fx gc gf] W fun e w' => e = .returned (.bool true) ∧ Below W.heap.size W w') := fun b1 b2 b3 b4 b5 rs1 c1 c2 c3 c4 c5 rs2 C D W e1 e2 o1 o2 => by
    have := eqSg_any (some ⟨b1, 0, none⟩) (some ⟨c1, 0, none⟩) rs.length rs.length (some ⟨b2, 0, none⟩) (some ⟨c2, 0, none⟩) ps.length ps.length top pr st bu (some ⟨b3, 0, none⟩) (some ⟨c3, 0, none⟩) bs.length bs.length (some ⟨b4, 0, none⟩) (some ⟨c4, 0, none⟩) ls.length ls.length (some ⟨b5, 0, none⟩) (some ⟨c5, 0, none⟩) us.length us.length ai fx gc gf rs1 rs2 ps bs ls us W (by rw [bareS_len e1]; exact hn) hm hq hl hu (e1.trans e2.symm) o1.sts o2.sts o1.prs o2.prs o1.bds o2.bds o1.pls o2.pls o1.tops o2.tops
    rwa [bareS_len e1, bareS_len e2] at this
  have TW : Hid (∀ b c W, RowV W b vs.length vs → RowV W c vs.length vs → Calls Tryz.prog 12 #[.slice (some ⟨b, 0, none⟩) vs.length vs.length, .slice (some ⟨c, 0, none⟩) vs.length vs.length] W fun e w' => e = .returned (.bool true) ∧ Below W.heap.size W w') := fun b c W r1 r2 => eqVlS_any _ _ _ _ vs W ha r1.pls r2.pls
  have SP : Hid (∀ b1 b2 b3 b4 b5 rs' C bv W, bareS rs' = bareS rs → OwnSg C W b1 b2 b3 b4 b5 rs' ps bs ls us → RowV W bv vs.length vs → Calls Tryz.prog 7 #[SgV (some ⟨b1, 0, none⟩) rs.length rs.length (some ⟨b2, 0, none⟩) ps.length ps.length top pr st bu (some ⟨b3, 0, none⟩) bs.length bs.length (some ⟨b4, 0, none⟩) ls.length ls.length (some ⟨b5, 0, none⟩) us.length us.length ai fx gc gf, .slice (some ⟨bv, 0, none⟩) vs.length vs.length] W fun e w' => e = .returned (.bool (B (ValR (StgR rs ps top pr st bu bs ls us ai fx gc gf) bs vs))) ∧ Below W.heap.size W w') := fun b1 b2 b3 b4 b5 rs' C bv W eb o rv => by
    have hl' := bareS_len eb
    have SR : Hid (∀ W', Below W.heap.size W W' → Calls Tryz.prog 22 #[SgV (some ⟨b1, 0, none⟩) rs.length rs.length (some ⟨b2, 0, none⟩) ps.length ps.length top pr st bu (some ⟨b3, 0, none⟩) bs.length bs.length (some ⟨b4, 0, none⟩) ls.length ls.length (some ⟨b5, 0, none⟩) us.length us.length ai fx gc gf] W' fun e w' => e = .returned (.bool (B (StgR rs' ps top pr st bu bs ls us ai fx gc gf))) ∧ Below W'.heap.size W' w') := fun W' hW => by
      have o' := o.below hW
      have := ssr_any (some ⟨b1, 0, none⟩) rs.length (some ⟨b2, 0, none⟩) ps.length top pr st bu (some ⟨b3, 0, none⟩) bs.length (some ⟨b4, 0, none⟩) ls.length (some ⟨b5, 0, none⟩) us.length ai fx gc gf rs' ps bs ls us W' (by omega) hq hl hu o'.sts o'.prs o'.bds o'.pls o'.tops
      rwa [hl'] at this
    have := svr_of (some ⟨b1, 0, none⟩) rs.length rs.length (some ⟨b2, 0, none⟩) ps.length ps.length top pr st bu (some ⟨b3, 0, none⟩) bs.length (some ⟨b4, 0, none⟩) ls.length ls.length (some ⟨b5, 0, none⟩) us.length us.length ai fx gc gf bs (some ⟨bv, 0, none⟩) vs.length vs _ W hq ha o.bds rv.pls SR
    rwa [val_bare ps top pr st bu bs ls us ai fx gc gf vs eb] at this
  have IM : Hid (∀ b1 b2 b3 b4 b5 rs' C bv W, bareS rs' = bareS rs → OwnSg C W b1 b2 b3 b4 b5 rs' ps bs ls us → RowV W bv vs.length vs → Calls Tryz.prog 10 #[SgV (some ⟨b1, 0, none⟩) rs.length rs.length (some ⟨b2, 0, none⟩) ps.length ps.length top pr st bu (some ⟨b3, 0, none⟩) bs.length bs.length (some ⟨b4, 0, none⟩) ls.length ls.length (some ⟨b5, 0, none⟩) us.length us.length ai fx gc gf, .slice (some ⟨bv, 0, none⟩) vs.length vs.length] W fun e w' => e = .returned (.bool (B (ValR (StgR rs ps top pr st bu bs ls us ai fx gc gf) bs vs))) ∧ Below W.heap.size W w') := fun b1 b2 b3 b4 b5 rs' C bv W eb o rv => by
    have hl' := bareS_len eb
    have SR : Hid (∀ W', Below W.heap.size W W' → Calls Tryz.prog 27 #[SgV (some ⟨b1, 0, none⟩) rs.length rs.length (some ⟨b2, 0, none⟩) ps.length ps.length top pr st bu (some ⟨b3, 0, none⟩) bs.length bs.length (some ⟨b4, 0, none⟩) ls.length ls.length (some ⟨b5, 0, none⟩) us.length us.length ai fx gc gf] W' fun e w' => e = .returned (.bool (B (StgR rs' ps top pr st bu bs ls us ai fx gc gf))) ∧ Below W'.heap.size W' w') := fun W' hW => by
      have o' := o.below hW
      have := isr_any (some ⟨b1, 0, none⟩) rs.length (some ⟨b2, 0, none⟩) ps.length top pr st bu (some ⟨b3, 0, none⟩) bs.length (some ⟨b4, 0, none⟩) ls.length (some ⟨b5, 0, none⟩) us.length ai fx gc gf rs' ps bs ls us W' (by omega) hq hl hu (Nat.le_refl _) o'.sts o'.prs h.c.t.wf o'.bds o'.pls o'.tops
      rwa [hl'] at this
    have := ivr_of (some ⟨b1, 0, none⟩) rs.length rs.length (some ⟨b2, 0, none⟩) ps.length ps.length top pr st bu (some ⟨b3, 0, none⟩) bs.length (some ⟨b4, 0, none⟩) ls.length ls.length (some ⟨b5, 0, none⟩) us.length us.length ai fx gc gf bs (some ⟨bv, 0, none⟩) vs.length vs _ W hq ha o.bds rv.pls SR
    rwa [val_bare ps top pr st bu bs ls us ai fx gc gf vs eb] at this
  clear h hs e hT e2 hT2 hn hm hq hl hu ha hvs hvl
  generalize (1048576 - ((rs.length + totD rs + ps.length + bs.length + ls.length + us.length : Nat) : Int)) - (vs.length : Int) = z2 at *
  generalize (1048576 - ((rs.length + totD rs + ps.length + bs.length + ls.length + us.length : Nat) : Int)) = z at *
  generalize rs.length = n at *
  generalize ps.length = m at *
  generalize bs.length = q at *
  generalize ls.length = p at *
  generalize us.length = u at *
  generalize vs.length = a at *
  generalize B (ValR (StgR rs ps top pr st bu bs ls us ai fx gc gf) bs vs) = r at *
  have hrr : (r != r) = false := by simp
  have N0 := Lib.hid (new_at w (.cells (SgC sl n cap tl m kap top pr st bu bl q cb pl p cp ul u cu ai fx gc gf) 32))
  have B0 := Lib.hid (bA0 w (.cells (SgC sl n cap tl m kap top pr st bu bl q cb pl p cp ul u cu ai fx gc gf) 32))
  have hw0 : (w.alloc (.cells (SgC sl n cap tl m kap top pr st bu bl q cb pl p cp ul u cu ai fx gc gf) 32)).heap.size = w.heap.size + 1 := by simp
  have KT : Hid (∀ W, Below (w.heap.size + 1) (w.alloc (.cells (SgC sl n cap tl m kap top pr st bu bl q cb pl p cp ul u cu ai fx gc gf) 32)) W → w.heap.size < W.heap.size ∧ W.cell? ⟨w.heap.size, 0, none⟩ = some (.slice sl n cap) ∧ W.cell? ⟨w.heap.size, 1, none⟩ = some (.slice tl m kap) ∧ W.cell? ⟨w.heap.size, 2, none⟩ = some (.int .i64 top) ∧ W.cell? ⟨w.heap.size, 3, none⟩ = some (.int .i64 pr) ∧ W.cell? ⟨w.heap.size, 4, none⟩ = some (.int .i64 st) ∧ W.cell? ⟨w.heap.size, 5, none⟩ = some (.int .i64 bu) ∧ W.cell? ⟨w.heap.size, 6, none⟩ = some (.slice bl q cb) ∧ W.cell? ⟨w.heap.size, 7, none⟩ = some (.slice pl p cp) ∧ W.cell? ⟨w.heap.size, 8, none⟩ = some (.slice ul u cu) ∧ W.cell? ⟨w.heap.size, 9, none⟩ = some (.int .i64 ai) ∧ W.cell? ⟨w.heap.size, 10, none⟩ = some (.int .i64 fx) ∧ W.cell? ⟨w.heap.size, 11, none⟩ = some (.bool gc) ∧ W.cell? ⟨w.heap.size, 12, none⟩ = some (.bool gf)) := fun W hW => by
    obtain ⟨x0, x1, x2, x3, x4, x5, x6, x7, x8, x9, x10, x11, x12, cf, cl⟩ := cells13 ((hW.block w.heap.size (by omega)).trans N0.out)
    exact ⟨cl, x0, x1, x2, x3, x4, x5, x6, x7, x8, x9, x10, x11, x12⟩
  clear N0
  go_enter Tryz.func3, Tryz.ntmps3
  go_wp2_with fail
  refine (SZ.out _ (bA0 _ _)).mono ?_
  rintro e w1 ⟨rfl, b1⟩
  generalize w.alloc (.cells (SgC sl n cap tl m kap top pr st bu bl q cb pl p cp ul u cu ai fx gc gf) 32) = wA at *
  have A1 : Hid (Below (w.heap.size + 1) wA w1) := by rw [← hw0]; exact b1
  have D1 := Lib.hid (bT B0.out b1)
  clear b1 SZ
  go_wp2_with fail
  refine (SZ2.out _).mono ?_
  rintro e w1' ⟨rfl, rfl⟩
  obtain ⟨tl0, t0, t1, t2, t3, t4, t5, t6, t7, t8, t9, t10, t11, t12⟩ := KT.out _ A1.out
  have hs1 := A1.out.size
  go_wp2_with fail
  refine (TO.out _ D1.out).mono ?_
  rintro e w2 ⟨b1, b2, b3, b4, b5, rs1, rfl, e1, o1, bl2⟩
  have D2 := Lib.hid (bT D1.out bl2)
  have A2 := Lib.hid (A1.out.trans (bl2.mono (by omega)))
  have O2 := Lib.hid o1
  have E1 := Lib.hid e1
  clear o1 bl2 e1 A1 D1 t0 t1 t2 t3 t4 t5 t6 t7 t8 t9 t10 t11 t12 tl0 SZ2
  go_wp2_with fail
  refine (TV.out _ D2.out).mono ?_
  rintro e w2v ⟨rfl, r2, bl2v⟩
  have hs2' := A2.out.size
  have D2v := Lib.hid (bT D2.out bl2v)
  have A2v := Lib.hid (A2.out.trans (bl2v.mono (by omega)))
  have T2 := Lib.hid (SP.out b1 b2 b3 b4 b5 rs1 _ _ w2v E1.out (O2.out.below bl2v) r2)
  have hs2 := A2v.out.size
  clear O2 bl2v E1 A2 D2 r2
  go_wp2_with fail
  refine T2.out.mono ?_
  rintro e w3 ⟨rfl, bl3⟩
  have D3 := Lib.hid (bT D2v.out bl3)
  have A3 := Lib.hid (A2v.out.trans (bl3.mono (by omega)))
  clear bl3 T2 A2v D2v
  obtain ⟨tl0, t0, t1, t2, t3, t4, t5, t6, t7, t8, t9, t10, t11, t12⟩ := KT.out _ A3.out
  have hs3 := A3.out.size
  go_wp2_with fail
  refine (TO.out _ D3.out).mono ?_
  rintro e w4 ⟨c1, c2, c3, c4, c5, rs2, rfl, e2, o2, bl4⟩
  have D4 := Lib.hid (bT D3.out bl4)
  have A4 := Lib.hid (A3.out.trans (bl4.mono (by omega)))
  have E2 := Lib.hid e2
  have O5 := Lib.hid (o2.below (bA0 _ (.cells (SgC (some ⟨c1, 0, none⟩) n n (some ⟨c2, 0, none⟩) m m top pr st bu (some ⟨c3, 0, none⟩) q q (some ⟨c4, 0, none⟩) p p (some ⟨c5, 0, none⟩) u u ai fx gc gf) 46)))
  have X5 := Lib.hid (new_at w4 (.cells (SgC (some ⟨c1, 0, none⟩) n n (some ⟨c2, 0, none⟩) m m top pr st bu (some ⟨c3, 0, none⟩) q q (some ⟨c4, 0, none⟩) p p (some ⟨c5, 0, none⟩) u u ai fx gc gf) 46))
  have D5 := Lib.hid (bA D4.out (.cells (SgC (some ⟨c1, 0, none⟩) n n (some ⟨c2, 0, none⟩) m m top pr st bu (some ⟨c3, 0, none⟩) q q (some ⟨c4, 0, none⟩) p p (some ⟨c5, 0, none⟩) u u ai fx gc gf) 46))
  have hs4 := A4.out.size
  have A5 := Lib.hid (A4.out.trans ((bA0 w4 (.cells (SgC (some ⟨c1, 0, none⟩) n n (some ⟨c2, 0, none⟩) m m top pr st bu (some ⟨c3, 0, none⟩) q q (some ⟨c4, 0, none⟩) p p (some ⟨c5, 0, none⟩) u u ai fx gc gf) 46)).mono (by omega)))
  have HS5 := Lib.hid (show (w4.alloc (.cells (SgC (some ⟨c1, 0, none⟩) n n (some ⟨c2, 0, none⟩) m m top pr st bu (some ⟨c3, 0, none⟩) q q (some ⟨c4, 0, none⟩) p p (some ⟨c5, 0, none⟩) u u ai fx gc gf) 46)).heap.size = w4.heap.size + 1 by simp)
  clear e2 o2 bl4 A3 D3 t0 t1 t2 t3 t4 t5 t6 t7 t8 t9 t10 t11 t12 tl0 A4 D4
  go_wp2_with fail
  generalize w4.alloc (.cells (SgC (some ⟨c1, 0, none⟩) n n (some ⟨c2, 0, none⟩) m m top pr st bu (some ⟨c3, 0, none⟩) q q (some ⟨c4, 0, none⟩) p p (some ⟨c5, 0, none⟩) u u ai fx gc gf) 46) = w5 at *
  refine (TV.out _ D5.out).mono ?_
  rintro e w5v ⟨rfl, r5, bl5⟩
  have hs5 := A5.out.size
  have D5v := Lib.hid (bT D5.out bl5)
  have A5v := Lib.hid (A5.out.trans (bl5.mono (by omega)))
  have O5v := Lib.hid (O5.out.below bl5)
  have X5v := Lib.hid ((bl5.block w4.heap.size (by rw [HS5.out]; omega)).trans X5.out)
  have R5 := Lib.hid r5
  have T6 := Lib.hid (IM.out c1 c2 c3 c4 c5 rs2 _ _ w5v E2.out O5v.out r5)
  clear bl5 O5 X5 A5 D5 r5
  obtain ⟨x0, x1, x2, x3, x4, x5, x6, x7, x8, x9, x10, x11, x12, xf, xl⟩ := cells13 X5v.out
  go_wp2_with fail
  refine T6.out.mono ?_
  rintro e w6 ⟨rfl, bl6⟩
  have D6 := Lib.hid (bT D5v.out bl6)
  have hs5v := A5v.out.size
  have A6 := Lib.hid (A5v.out.trans (bl6.mono (by omega)))
  have O6 := Lib.hid (O5v.out.below bl6)
  have X6 := Lib.hid ((bl6.block _ xl).trans X5v.out)
  have L6 := Lib.hid (Nat.lt_of_lt_of_le xl bl6.size)
  have R6 := Lib.hid (R5.out.below bl6)
  clear bl6 O5v X5v A5v D5v IM SP x0 x1 x2 x3 x4 x5 x6 x7 x8 x9 x10 x11 x12 xf xl T6 R5
  have hs6 := A6.out.size
  have KX : Hid (∀ W, Below w6.heap.size w6 W → w.heap.size < W.heap.size ∧ w4.heap.size < W.heap.size ∧ W.cell? ⟨w.heap.size, 0, none⟩ = some (.slice sl n cap) ∧ W.cell? ⟨w.heap.size, 1, none⟩ = some (.slice tl m kap) ∧ W.cell? ⟨w.heap.size, 2, none⟩ = some (.int .i64 top) ∧ W.cell? ⟨w.heap.size, 3, none⟩ = some (.int .i64 pr) ∧ W.cell? ⟨w.heap.size, 4, none⟩ = some (.int .i64 st) ∧ W.cell? ⟨w.heap.size, 5, none⟩ = some (.int .i64 bu) ∧ W.cell? ⟨w.heap.size, 6, none⟩ = some (.slice bl q cb) ∧ W.cell? ⟨w.heap.size, 7, none⟩ = some (.slice pl p cp) ∧ W.cell? ⟨w.heap.size, 8, none⟩ = some (.slice ul u cu) ∧ W.cell? ⟨w.heap.size, 9, none⟩ = some (.int .i64 ai) ∧ W.cell? ⟨w.heap.size, 10, none⟩ = some (.int .i64 fx) ∧ W.cell? ⟨w.heap.size, 11, none⟩ = some (.bool gc) ∧ W.cell? ⟨w.heap.size, 12, none⟩ = some (.bool gf) ∧ W.cell? ⟨w4.heap.size, 0, none⟩ = some (.slice (some ⟨c1, 0, none⟩) n n) ∧ W.cell? ⟨w4.heap.size, 1, none⟩ = some (.slice (some ⟨c2, 0, none⟩) m m) ∧ W.cell? ⟨w4.heap.size, 2, none⟩ = some (.int .i64 top) ∧ W.cell? ⟨w4.heap.size, 3, none⟩ = some (.int .i64 pr) ∧ W.cell? ⟨w4.heap.size, 4, none⟩ = some (.int .i64 st) ∧ W.cell? ⟨w4.heap.size, 5, none⟩ = some (.int .i64 bu) ∧ W.cell? ⟨w4.heap.size, 6, none⟩ = some (.slice (some ⟨c3, 0, none⟩) q q) ∧ W.cell? ⟨w4.heap.size, 7, none⟩ = some (.slice (some ⟨c4, 0, none⟩) p p) ∧ W.cell? ⟨w4.heap.size, 8, none⟩ = some (.slice (some ⟨c5, 0, none⟩) u u) ∧ W.cell? ⟨w4.heap.size, 9, none⟩ = some (.int .i64 ai) ∧ W.cell? ⟨w4.heap.size, 10, none⟩ = some (.int .i64 fx) ∧ W.cell? ⟨w4.heap.size, 11, none⟩ = some (.bool gc) ∧ W.cell? ⟨w4.heap.size, 12, none⟩ = some (.bool gf)) := fun W hW => by
    obtain ⟨k1, k20, k21, k22, k23, k24, k25, k26, k27, k28, k29, k210, k211, k212⟩ := KT.out W (A6.out.trans (hW.mono (by omega)))
    obtain ⟨y0, y1, y2, y3, y4, y5, y6, y7, y8, y9, y10, y11, y12, yf, yl⟩ := cells13 ((hW.block _ L6.out).trans X6.out)
    exact ⟨k1, yl, k20, k21, k22, k23, k24, k25, k26, k27, k28, k29, k210, k211, k212, y0, y1, y2, y3, y4, y5, y6, y7, y8, y9, y10, y11, y12⟩
  go_wp2_with fail
  refine wp_region_held_drew (S := fun W => w.heap.size < W.heap.size ∧ w4.heap.size < W.heap.size ∧ W.cell? ⟨w.heap.size, 0, none⟩ = some (.slice sl n cap) ∧ W.cell? ⟨w.heap.size, 1, none⟩ = some (.slice tl m kap) ∧ W.cell? ⟨w.heap.size, 2, none⟩ = some (.int .i64 top) ∧ W.cell? ⟨w.heap.size, 3, none⟩ = some (.int .i64 pr) ∧ W.cell? ⟨w.heap.size, 4, none⟩ = some (.int .i64 st) ∧ W.cell? ⟨w.heap.size, 5, none⟩ = some (.int .i64 bu) ∧ W.cell? ⟨w.heap.size, 6, none⟩ = some (.slice bl q cb) ∧ W.cell? ⟨w.heap.size, 7, none⟩ = some (.slice pl p cp) ∧ W.cell? ⟨w.heap.size, 8, none⟩ = some (.slice ul u cu) ∧ W.cell? ⟨w.heap.size, 9, none⟩ = some (.int .i64 ai) ∧ W.cell? ⟨w.heap.size, 10, none⟩ = some (.int .i64 fx) ∧ W.cell? ⟨w.heap.size, 11, none⟩ = some (.bool gc) ∧ W.cell? ⟨w.heap.size, 12, none⟩ = some (.bool gf) ∧ W.cell? ⟨w4.heap.size, 0, none⟩ = some (.slice (some ⟨c1, 0, none⟩) n n) ∧ W.cell? ⟨w4.heap.size, 1, none⟩ = some (.slice (some ⟨c2, 0, none⟩) m m) ∧ W.cell? ⟨w4.heap.size, 2, none⟩ = some (.int .i64 top) ∧ W.cell? ⟨w4.heap.size, 3, none⟩ = some (.int .i64 pr) ∧ W.cell? ⟨w4.heap.size, 4, none⟩ = some (.int .i64 st) ∧ W.cell? ⟨w4.heap.size, 5, none⟩ = some (.int .i64 bu) ∧ W.cell? ⟨w4.heap.size, 6, none⟩ = some (.slice (some ⟨c3, 0, none⟩) q q) ∧ W.cell? ⟨w4.heap.size, 7, none⟩ = some (.slice (some ⟨c4, 0, none⟩) p p) ∧ W.cell? ⟨w4.heap.size, 8, none⟩ = some (.slice (some ⟨c5, 0, none⟩) u u) ∧ W.cell? ⟨w4.heap.size, 9, none⟩ = some (.int .i64 ai) ∧ W.cell? ⟨w4.heap.size, 10, none⟩ = some (.int .i64 fx) ∧ W.cell? ⟨w4.heap.size, 11, none⟩ = some (.bool gc) ∧ W.cell? ⟨w4.heap.size, 12, none⟩ = some (.bool gf)) (by kernel_rfl) ?_ (fun hHeld => ?_)
  · exact KX.out _ (Below.refl _ _).drew
  refine wpAnyH_take (i := 0) (oi := _) (v := ?_) rfl (by kernel_rfl) (by kernel_rfl) (by kernel_rfl) (fun _ _ _ h => h) (Or.inl ⟨by rfl, ?_⟩) (by assumption) ?_
  rotate_left
  · first | (intro w hSw; (try dsimp only at hSw); go_simp; done) | (intro w hSw; (try dsimp only at hSw); go_simp; with_reducible rfl)
  try simp only [Act.put, List.setIfInBounds_toArray, List.set_cons_zero, List.set_cons_succ, List.getElem_toArray, List.getElem_cons_zero]
  refine wpAnyH_take (i := 1) (oi := _) (v := ?_) rfl (by kernel_rfl) (by kernel_rfl) (by kernel_rfl) (fun _ _ _ h => h) (Or.inl ⟨by rfl, ?_⟩) (by assumption) ?_
  rotate_left
  · first | (intro w hSw; (try dsimp only at hSw); go_simp; done) | (intro w hSw; (try dsimp only at hSw); go_simp; with_reducible rfl)
  try simp only [Act.put, List.setIfInBounds_toArray, List.set_cons_zero, List.set_cons_succ, List.getElem_toArray, List.getElem_cons_succ, List.getElem_cons_zero]
  refine wpAnyH_ready (rs := [2]) (by kernel_rfl) (by simp) ?_
  refine AllReadyH.cons rfl (fun K hK => ?_) AllReadyH.nil
  go_simp
  go_wp2_with (go_at_call 8; refine (TO.out _ D6.out.drew).mono ?_; rintro e w7 ⟨d1, d2, d3, d4, d5, rs3, rfl, e3, o3, bl7⟩)
  have D7 : Hid (Below w6.heap.size w6 w7) := bT ((Below.refl w6.heap.size w6).drew) bl7
  have O7 := Lib.hid o3
  have E7 := Lib.hid e3
  clear bl7 o3 e3
  refine hK.out _ _ ?_ (fun hHeld => ?_)
  · exact KX.out _ D7.out
  clear hK K
  refine wpAnyH_ready (rs := [3]) (by kernel_rfl) (by simp) ?_
  refine AllReadyH.cons rfl (fun K hK => ?_) AllReadyH.nil
  go_simp
  go_wp2_with (go_at_call 11; refine (TE.out c1 c2 c3 c4 c5 rs2 d1 d2 d3 d4 d5 rs3 _ _ _ E2.out E7.out (O6.out.below D7.out) O7.out).mono ?_; rintro e w8 ⟨rfl, bl8⟩)
  have D8 : Hid (Below w6.heap.size w6 w8) := bT D7.out bl8
  clear bl8
  refine hK.out _ _ ?_ (fun hHeld => ?_)
  · exact KX.out _ D8.out
  clear hK K
  refine wpAnyH_take (i := 4) (oi := _) (v := ?_) rfl (by kernel_rfl) (by kernel_rfl) (by kernel_rfl) (fun _ _ _ h => h) (Or.inl ⟨by rfl, ?_⟩) (by assumption) ?_
  rotate_left
  · first | (intro w hSw; (try dsimp only at hSw); go_simp; done) | (intro w hSw; (try dsimp only at hSw); go_simp; with_reducible rfl)
  try simp only [Act.put, List.setIfInBounds_toArray, List.set_cons_zero, List.set_cons_succ, List.getElem_toArray, List.getElem_cons_succ, List.getElem_cons_zero]
  refine wpAnyH_done (by kernel_rfl) ?_ _

  have D9 := Lib.hid (bT D6.out D8.out)
  have R9 := Lib.hid (R6.out.below D8.out)
  clear D8 D7 KX O7 E7 TE TO O6 A6 R6
  go_wp2_with fail
  refine (TV.out _ D9.out).mono ?_
  rintro e w9 ⟨rfl, r9, bl9⟩
  have D10 := Lib.hid (bT D9.out bl9)
  have T10 := Lib.hid (TW.out _ _ w9 (R9.out.below bl9) r9)
  clear bl9 r9 D9 R9
  go_wp2_with fail
  refine T10.out.mono ?_
  rintro e w10 ⟨rfl, bl10⟩
  have D11 := Lib.hid (bT D10.out bl10)
  clear bl10 D10 T10
  go_wp2
  go_ret
  exact ⟨rfl, D11.out⟩

end Go.Proofs.YtnkiaickkbkjnaaGreat
