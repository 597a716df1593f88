/-
  THE LAW OF THE BUDGET: the walk.
-/
import Derived.Test.YtoobcodlgajieaaDoorKSc
import Derived.Test.YtoobcodlgajieaaDoorKWah
import Derived.Test.YtoobcodlgajieaaDoorKXag
namespace Go.Proofs.YtoobcodlgajieaaDoor
open Go.RowKit
set_option linter.unusedVariables false

/-- laws.lwMin. -/
theorem lwm_any (a b : Int) (w : World) :
    Calls Tryd.prog 20 #[.int .i64 a, .int .i64 b] w fun e w' => e = .returned (.int .i64 (if a < b then a else b)) ∧ w' = w := by
  by_cases h : a < b
  · go_enter Tryd.func20, Tryd.ntmps20
    go_wp2
    go_ret
    exact ⟨rfl, rfl⟩
  · go_enter Tryd.func20, Tryd.ntmps20
    go_wp2
    go_ret
    exact ⟨rfl, rfl⟩

theorem lwm_hid (a b : Int) (w : World) :
    Calls Tryd.prog 20 #[.int .i64 a, .int .i64 b] w fun e w' => ∃ q, Hid (q = if a < b then a else b) ∧ e = .returned (.int .i64 q) ∧ w = w' :=
  (lwm_any a b w).mono fun e w' h => ⟨_, rfl, h.1, h.2.symm⟩

/-- The drawn clauses, in their box. -/
structure BW (w : World) (b3 : Nat) (vars : Int) (vs : Option Addr) (n vk : Nat) (cs : List LCl) (W : World) : Prop where
  bel : Below w.heap.size w W
  arg : W.heap[b3]? = some (.cells #[.int .i64 vars, .slice vs n vk] 25)
  oc : OwC W w.heap.size (.slice vs n vk) cs
section
variable {w : World} {b3 : Nat} {vars : Int} {vs : Option Addr} {n vk : Nat} {cs : List LCl} {W W' : World}
theorem BW.below (h : BW w b3 vars vs n vk cs W) (hb : Below W.heap.size W W') : BW w b3 vars vs n vk cs W' :=
  ⟨bT h.bel hb, (hb.block _ (Array.getElem?_eq_some_iff.1 h.arg).1).trans h.arg, h.oc.below hb⟩
theorem BW.cells (h : BW w b3 vars vs n vk cs W) : b3 < W.heap.size ∧ W.cell? ⟨b3, 0, none⟩ = some (.int .i64 vars) ∧ W.cell? ⟨b3, 1, none⟩ = some (.slice vs n vk) := by
  have ha := h.arg
  exact ⟨(Array.getElem?_eq_some_iff.1 ha).1, by simp [World.cell?, ha], by simp [World.cell?, ha]⟩
theorem BW.only (h : BW w b3 vars vs n vk cs W) {b : Nat} {us : Array Value} (ho : Only b W W') (hx : W.heap[b]? = some (.cells us 41)) (hb : w.heap.size ≤ b) : BW w b3 vars vs n vk cs W' := by
  have ha := h.arg
  have hne : b3 ≠ b := fun e => by rw [e, hx] at ha; cases ha
  exact ⟨ho.below h.bel hb, (ho.block b3 (Array.getElem?_eq_some_iff.1 ha).1 hne).trans ha, own_only h.oc.row ho hx (by decide), fun r hr => own_only (h.oc.each r hr) ho hx (by decide), h.oc.diff⟩
theorem BW.drew (h : BW w b3 vars vs n vk cs W) : BW w b3 vars vs n vk cs W.drew := ⟨h.bel.drew, h.arg, h.oc.below (Below.refl _ _).drew⟩
end
/-- An answer, in its box. -/
structure AN (b : Nat) (s : Option Addr) (tn k : Nat) (l : Option Addr) (ln j : Nat) (x st c : Int) (zv : List Value) (ls : List LCl) (W : World) : Prop where
  own : ∃ B, W.ownsRow B 2 1 (.slice s tn k) tn zv ∧ OwC W B (.slice l ln j) ls
  box : BoxS W b x (.slice s tn k) (.slice l ln j) st c
section
variable {b : Nat} {s : Option Addr} {tn k : Nat} {l : Option Addr} {ln j : Nat} {x st c : Int} {zv : List Value} {ls : List LCl} {W W' : World}
theorem AN.below (h : AN b s tn k l ln j x st c zv ls W) (hb : Below W.heap.size W W') : AN b s tn k l ln j x st c zv ls W' := by
  obtain ⟨B, h1, h2⟩ := h.own
  exact ⟨⟨B, own_below h1 hb, h2.below hb⟩, h.box.below hb⟩
theorem AN.only (h : AN b s tn k l ln j x st c zv ls W) {g : Nat} {us : Array Value} (ho : Only g W W') (hx : W.heap[g]? = some (.cells us 41)) (hg : b ≠ g) : AN b s tn k l ln j x st c zv ls W' := by
  obtain ⟨B, h1, h2⟩ := h.own
  exact ⟨⟨B, own_only h1 ho hx (by decide), own_only h2.row ho hx (by decide), fun r hr => own_only (h2.each r hr) ho hx (by decide), h2.diff⟩, (ho.block b h.box.facts.1 hg).trans h.box⟩
theorem AN.drew (h : AN b s tn k l ln j x st c zv ls W) : AN b s tn k l ln j x st c zv ls W.drew := by
  obtain ⟨B, h1, h2⟩ := h.own
  exact ⟨⟨B, own_below h1 (Below.refl _ _).drew, h2.below (Below.refl _ _).drew⟩, h.box⟩
theorem AN.two (h : AN b s tn k l ln j x st c zv ls W) : b < W.heap.size ∧ W.cell? ⟨b, 0, none⟩ = some (.int .i64 x) ∧ W.cell? ⟨b, 1, none⟩ = some (.slice s tn k) := ⟨h.box.facts.1, h.box.facts.2.1, h.box.facts.2.2.1⟩
end
theorem tot_20 {cs : List LCl} (h : ∀ r ∈ cs, r.2.length ≤ 20) : totC cs ≤ 20 * cs.length := by
  induction cs with
  | nil => simp [totC]
  | cons r t ih =>
    have h1 := ih (fun s hs => h s (by simp [hs]))
    have h2 := h r (by simp)
    have e : totC (r :: t) = r.2.length + totC t := by simp [totC]
    rw [e, List.length_cons]
    omega

set_option maxRecDepth 100000 in
set_option maxHeartbeats 8000000 in
theorem law3_of (sl : Option Addr) (len cap : Nat) (w : World) (hl : len ≤ maxLen) (DS : Calls Tryd.prog 17 #[.slice sl len cap] w (DsPost w)) (hT : TabB w) :
    Calls Tryd.prog 4 #[.slice sl len cap] w fun e w' => e = .returned (.bool true) ∧ Below w.heap.size w w' := by
  unfold maxLen at hl
  by_cases hz : 1048576 < len
  · have hz' : (1048576 : Int) < (len : Int) := by omega
    clear DS
    go_enter Tryd.func4, Tryd.ntmps4
    go_wp2
    go_ret
    exact ⟨rfl, Below.refl _ _⟩
  have hz' : ¬ (1048576 : Int) < (len : Int) := by omega
  have DS' := Lib.hid DS
  clear DS
  go_enter Tryd.func4, Tryd.ntmps4
  go_wp2_with fail
  refine DS'.out.mono ?_
  rintro e w1 ⟨vars, vs, vk, cs, bud, rfl, hsm, hl5, hb1, hb2, oc, bel⟩
  clear DS' hz hz' hl
  have hwf : WfC cs := fun r hr z hz => by
    have := (hsm r hr).2 z hz
    unfold wfI
    have e1 : IntKind.i64.min = -9223372036854775808 := by rfl
    have e2 : IntKind.i64.max = 9223372036854775807 := by rfl
    simp only [Lit.wf, e1, e2, Bool.and_eq_true, decide_eq_true_eq]
    omega
  have htot : totC cs ≤ 1048576 := by have := tot_20 (fun r hr => (hsm r hr).1); omega
  have hlits : ∀ l ∈ bareC cs, ∀ z ∈ l, wfI z := fun l hl z hz => by
    obtain ⟨r, hr, rfl⟩ := List.mem_map.1 hl
    exact hwf r hr z hz
  have hcls : ∀ W, OwC W w.heap.size (.slice vs cs.length vk) cs → Cls W vs cs := fun W o => by
    obtain ⟨s, k, e, c⟩ := o.cls
    cases e
    exact c
  have SP : Hid (∀ W, OwC W w.heap.size (.slice vs cs.length vk) cs → Calls Tryd.prog 18 #[CV vars vs cs.length vk, .int .i64 bud] W (SPost W (solA vars (bareC cs) bud))) := fun W o => sso_any vars bud vs vk cs W (by unfold maxLen; omega) htot hwf (hcls W o)
  have IM : Hid (∀ q W, Below w.heap.size w W → OwC W w.heap.size (.slice vs cs.length vk) cs → Calls Tryd.prog 19 #[CV vars vs cs.length vk, .int .i64 q] W (SPost W (solA vars (bareC cs) q))) := fun q W hbw o => iso_any vars q vs vk cs W (by unfold maxLen; omega) (hcls W o) hlits (hT.belowT hbw)
  have CT0 : Hid (∀ (W : World) s k (T : List Int), T.length ≤ 1048576 → OwC W w.heap.size (.slice vs cs.length vk) cs → Ints W s T → fC vars (bareC cs) T = -1 → Calls Tryd.prog 21 #[CV vars vs cs.length vk, .slice s T.length k] W fun e w' => e = .returned (.bool true) ∧ Below W.heap.size W w') := fun W s k T ht o hi hf => by
    have := ict_any vars vs vk cs s k T W (by unfold maxLen; omega) (by unfold maxLen; omega) (hcls W o) hi
    rw [hf] at this
    exact this
  have FC := fun (h : (solA vars (bareC cs) bud).2 = 0) => solA_code h
  have IM1 : Hid ((solA vars (bareC cs) bud).2 = 0 → (solA vars (bareC cs) bud).1.1 ≠ 3 → ∀ W, Below w.heap.size w W → OwC W w.heap.size (.slice vs cs.length vk) cs → Calls Tryd.prog 19 #[CV vars vs cs.length vk, .int .i64 (if bud + 40 < 300 then bud + 40 else 300)] W (SPost W (solA vars (bareC cs) bud))) := fun h0 h3 W hbw o => by
    have := IM.out (if bud + 40 < 300 then bud + 40 else 300) W hbw o
    rwa [solA_more (FC h0) h3] at this
  have IM0 : Hid (∀ W, Below w.heap.size w W → OwC W w.heap.size (.slice vs cs.length vk) cs → Calls Tryd.prog 19 #[CV vars vs cs.length vk, .int .i64 bud] W (SPost W (solA vars (bareC cs) bud))) := IM.out bud
  have ST : Hid ((solA vars (bareC cs) bud).2 = 0 → (solA vars (bareC cs) bud).1.2.2.2 ≤ bud) := fun h => solA_steps (FC h)
  have TR : Hid ((solA vars (bareC cs) bud).2 = 0 → (solA vars (bareC cs) bud).1.1 = 1 → fC vars (bareC cs) (solA vars (bareC cs) bud).1.2.1 = -1) := fun h h1 => solA_true (FC h) hlits h1
  have ZL := solA_small vars (bareC cs) bud
  have BU : Hid (-1 ≤ bud ∧ bud ≤ 301) := ⟨hb1, hb2⟩
  have B2 : Hid (BW w w1.heap.size vars vs cs.length vk cs (w1.alloc (.cells #[.int .i64 vars, .slice vs cs.length vk] 25))) := ⟨bT bel (bA0 _ _), new_at _ _, oc.below (bA0 _ _)⟩
  clear FC IM hcls hlits htot hwf hsm oc bel hT
  generalize solA vars (bareC cs) bud = R at *
  obtain ⟨⟨x, T, L, st⟩, c⟩ := R
  obtain ⟨ZT, ZN, ZE⟩ := ZL
  simp only at ZT ZN ZE
  have LE : Hid (∀ ls : List LCl, bareC ls = L → ls.length = L.length) := fun ls e => by rw [← e, bareC_length]
  have OA : Hid (∀ W e w', SPost W ((x, T, L, st), c) e w' → ∃ s k l j ls, e = .returned (.agg #[.int .i64 x, .slice s T.length k, .slice l L.length j, .int .i64 st, .int .i64 c]) ∧ w'.ownsRow W.heap.size 2 1 (.slice s T.length k) T.length (valsZ T) ∧ OwC w' W.heap.size (.slice l L.length j) ls ∧ bareC ls = L ∧ Below W.heap.size W w') := fun W e w' h => by
    obtain ⟨vt, vl, ls, rfl, sv, b⟩ := h
    obtain ⟨s, k, rfl⟩ := own_v sv.tr
    obtain ⟨l, j, rfl⟩ := sv.ol.v
    have e1 := LE.out ls sv.eq
    rw [e1]
    exact ⟨s, k, l, j, ls, rfl, sv.tr, by rw [← e1]; exact sv.ol, sv.eq, b⟩
  have SP' : Hid (∀ W, BW w w1.heap.size vars vs cs.length vk cs W → Calls Tryd.prog 18 #[CV vars vs cs.length vk, .int .i64 bud] W fun e w' => ∃ s k l j ls, e = .returned (.agg #[.int .i64 x, .slice s T.length k, .slice l L.length j, .int .i64 st, .int .i64 c]) ∧ w'.ownsRow W.heap.size 2 1 (.slice s T.length k) T.length (valsZ T) ∧ OwC w' W.heap.size (.slice l L.length j) ls ∧ bareC ls = L ∧ Below W.heap.size W w') := fun W o => (SP.out W o.oc).mono (OA.out W)
  have IM' : Hid (∀ W, BW w w1.heap.size vars vs cs.length vk cs W → Calls Tryd.prog 19 #[CV vars vs cs.length vk, .int .i64 bud] W fun e w' => ∃ s k l j ls, e = .returned (.agg #[.int .i64 x, .slice s T.length k, .slice l L.length j, .int .i64 st, .int .i64 c]) ∧ w'.ownsRow W.heap.size 2 1 (.slice s T.length k) T.length (valsZ T) ∧ OwC w' W.heap.size (.slice l L.length j) ls ∧ bareC ls = L ∧ Below W.heap.size W w') := fun W o => (IM0.out W o.bel o.oc).mono (OA.out W)
  have IM2' : Hid (c = 0 → x ≠ 3 → ∀ W, BW w w1.heap.size vars vs cs.length vk cs W → Calls Tryd.prog 19 #[CV vars vs cs.length vk, .int .i64 (if bud + 40 < 300 then bud + 40 else 300)] W fun e w' => ∃ s k l j ls, e = .returned (.agg #[.int .i64 x, .slice s T.length k, .slice l L.length j, .int .i64 st, .int .i64 c]) ∧ w'.ownsRow W.heap.size 2 1 (.slice s T.length k) T.length (valsZ T) ∧ OwC w' W.heap.size (.slice l L.length j) ls ∧ bareC ls = L ∧ Below W.heap.size W w') := fun h0 h3 W o => (IM1.out h0 h3 W o.bel o.oc).mono (OA.out W)
  have LC : Hid (∀ b s k l j ls W, AN b s T.length k l L.length j x st c (valsZ T) ls W → Calls Tryd.prog 12 #[.slice s T.length k] W fun e w' => ∃ s' k', e = .returned (.slice s' T.length k') ∧ w'.ownsRow W.heap.size 2 1 (.slice s' T.length k') T.length (valsZ T) ∧ Below W.heap.size W w') := fun b s k l j ls W a => by
    obtain ⟨B, o1, o2⟩ := a.own
    obtain ⟨s1, k1, e1, i1⟩ := own_ints o1
    cases e1
    refine (lwc_any s k T W (by omega) i1).mono ?_
    rintro e w' ⟨v, rfl, o, b⟩
    obtain ⟨s', k', rfl⟩ := own_v o
    exact ⟨s', k', rfl, o, b⟩
  have CT1 : Hid (c = 0 → x = 1 → ∀ (W : World) B s k, BW w w1.heap.size vars vs cs.length vk cs W → W.ownsRow B 2 1 (.slice s T.length k) T.length (valsZ T) → Calls Tryd.prog 21 #[CV vars vs cs.length vk, .slice s T.length k] W fun e w' => e = .returned (.bool true) ∧ Below W.heap.size W w') := fun h0 h1 W B s k o q => by
    obtain ⟨s1, k1, e1, i1⟩ := own_ints q
    cases e1
    exact CT0.out W s k T (by omega) o.oc i1 (TR.out h0 h1)
  have LS : Hid (∀ b s k l j ls b' s' k' l' j' ls' W, AN b s T.length k l L.length j x st c (valsZ T) ls W → AN b' s' T.length k' l' L.length j' x st c (valsZ T) ls' W → Calls Tryd.prog 13 #[.slice s T.length k, .slice s' T.length k'] W fun e w' => e = .returned (.bool true) ∧ Below W.heap.size W w') := fun b s k l j ls b' s' k' l' j' ls' W a a' => by
    obtain ⟨B, o1, o2⟩ := a.own
    obtain ⟨s1, k1, e1, i1⟩ := own_ints o1
    cases e1
    obtain ⟨B', o1', o2'⟩ := a'.own
    obtain ⟨s1', k1', e1', i1'⟩ := own_ints o1'
    cases e1'
    exact lws_any s s' k k' T W (by unfold maxLen; omega) i1 i1'
  have LL : Hid (∀ b s k l j ls b' s' k' l' j' ls' W, bareC ls = L → bareC ls' = L → AN b s T.length k l L.length j x st c (valsZ T) ls W → AN b' s' T.length k' l' L.length j' x st c (valsZ T) ls' W → Calls Tryd.prog 22 #[.slice l L.length j, .slice l' L.length j'] W fun e w' => e = .returned (.bool true) ∧ Below W.heap.size W w') := fun b s k l j ls b' s' k' l' j' ls' W e e' a a' => by
    obtain ⟨B, o1, o2⟩ := a.own
    obtain ⟨B', o1', o2'⟩ := a'.own
    have hl := LE.out ls e
    have hl' := LE.out ls' e'
    obtain ⟨l1, q1, y1, c1⟩ := o2.cls
    rw [hl] at y1
    cases y1
    obtain ⟨l2, q2, y2, c2⟩ := o2'.cls
    rw [hl'] at y2
    cases y2
    have := lwl_any l l' j j' ls ls' W (by omega) (e.trans e'.symm) c1 c2
    rwa [hl, hl'] at this
  clear SP IM0 IM1 OA LE CT0 TR ZE ZN ZT
  generalize hxv : valsZ T = zv at *
  clear hxv
  generalize T.length = tn at *
  generalize L.length = ln at *
  generalize cs.length = n at *
  clear hl5 hb1 hb2
  obtain ⟨tl, t0, t1⟩ := B2.out.cells
  --@a
  go_wp2_with fail
  generalize w1.alloc (.cells #[.int .i64 vars, .slice vs n vk] 25) = w2 at *
  generalize w1.heap.size = b3 at *
  refine (SP'.out _ B2.out).mono ?_
  rintro e w3 ⟨s5, k5, l5, j5, ls5, rfl, q5t, q5o, q5e, bl3⟩
  have B3 := Lib.hid ((B2.out.below bl3).below (bA0 w3 (.cells #[.int .i64 x, .slice s5 tn k5, .slice l5 ln j5, .int .i64 st, .int .i64 c] 41)))
  have W3 : Hid (BoxS (w3.alloc (.cells #[.int .i64 x, .slice s5 tn k5, .slice l5 ln j5, .int .i64 st, .int .i64 c] 41)) w3.heap.size x (.slice s5 tn k5) (.slice l5 ln j5) st c) := new_at _ _
  clear q5t q5o q5e bl3 SP' tl t0 t1 B2
  obtain ⟨tl, t0, t1⟩ := B3.out.cells
  --@b
  go_wp2_with fail
  generalize w3.alloc (.cells #[.int .i64 x, .slice s5 tn k5, .slice l5 ln j5, .int .i64 st, .int .i64 c] 41) = w4 at *
  generalize w3.heap.size = b5 at *
  refine (IM'.out _ B3.out).mono ?_
  rintro e w5 ⟨s6, k6, l6, j6, ls6, rfl, q6t, q6o, q6e, bl5⟩
  have E6 : Hid (bareC ls6 = L) := q6e
  have B6 := Lib.hid ((B3.out.below bl5).below (bA0 w5 (.cells #[.int .i64 x, .slice s6 tn k6, .slice l6 ln j6, .int .i64 st, .int .i64 c] 41)))
  have W6 := Lib.hid ((W3.out.below bl5).below (bA0 w5 (.cells #[.int .i64 x, .slice s6 tn k6, .slice l6 ln j6, .int .i64 st, .int .i64 c] 41)))
  have G6 : Hid (AN w5.heap.size s6 tn k6 l6 ln j6 x st c zv ls6 (w5.alloc (.cells #[.int .i64 x, .slice s6 tn k6, .slice l6 ln j6, .int .i64 st, .int .i64 c] 41))) := ⟨⟨_, own_below q6t (bA0 _ _), q6o.below (bA0 _ _)⟩, new_at _ _⟩
  clear q6t q6o q6e bl5 B3 W3 IM' tl t0 t1
  obtain ⟨tl, t0, t1⟩ := B6.out.cells
  obtain ⟨xl, x0, x1, x2, x3, x4⟩ := W6.out.facts
  obtain ⟨gl, g0, g1, g2, g3, g4⟩ := G6.out.box.facts
  by_cases hc : c = 0
  · subst hc
    by_cases h3 : x = 3
    · subst h3
      --@c
      go_wp2
      go_ret
      exact ⟨rfl, B6.out.bel⟩
    · have h3' : (x == 3) = false := beq_eq_false_iff_ne.2 h3
      have IM2 : Hid (∀ q, Hid (q = if bud + 40 < 300 then bud + 40 else 300) → ∀ W, BW w b3 vars vs n vk cs W → Calls Tryd.prog 19 #[CV vars vs n vk, .int .i64 q] W fun e w' => ∃ s k l j ls, e = .returned (.agg #[.int .i64 x, .slice s tn k, .slice l ln j, .int .i64 st, .int .i64 0]) ∧ w'.ownsRow W.heap.size 2 1 (.slice s tn k) tn zv ∧ OwC w' W.heap.size (.slice l ln j) ls ∧ bareC ls = L ∧ Below W.heap.size W w') := fun q hq => by rw [hq.out]; exact IM2'.out rfl h3
      have CT := Lib.hid (CT1.out rfl)
      have HST := ST.out rfl
      have hbu := BU.out
      have h40 : IntKind.i64.wrap (bud + 40) = bud + 40 := by rw [IntKind.wrap_i64]; omega
      have BD := Lib.hid B6.out.drew
      have GD := Lib.hid (G6.out.below (Below.refl _ _).drew)
      clear IM2' CT1 ST
      --@d
      go_wp2_with fail
      generalize w5.alloc (.cells #[.int .i64 x, .slice s6 tn k6, .slice l6 ln j6, .int .i64 st, .int .i64 0] 41) = w6 at *
      generalize w5.heap.size = b6 at *
      refine wp_region_held_drew (S := fun W => b3 < W.heap.size ∧ W.cell? ⟨b3, 0, none⟩ = some (.int .i64 vars) ∧ W.cell? ⟨b3, 1, none⟩ = some (.slice vs n vk)) (by kernel_rfl) ?_ (fun hHeld => ?_)
      · exact BD.out.cells
      generalize w6.drew = wd at *
      refine wpAnyH_take (i := 0) (oi := _) (v := ?_) rfl (by kernel_rfl) (by kernel_rfl) (by kernel_rfl) (fun _ _ _ h => h) (Or.inl ⟨by rfl, ?_⟩) (by assumption) ?_
      rotate_left
      · intro w hSw; (try dsimp only at hSw); go_simp; try with_reducible rfl
      try simp only [Act.put, List.setIfInBounds_toArray, List.set_cons_zero, List.set_cons_succ, List.getElem_toArray, List.getElem_cons_zero]
      refine wpAnyH_take (i := 1) (oi := _) (v := ?_) rfl (by kernel_rfl) (by kernel_rfl) (by kernel_rfl) (fun _ _ _ h => h) (Or.inl ⟨by rfl, ?_⟩) (by assumption) ?_
      rotate_left
      · intro w hSw; (try dsimp only at hSw); go_simp; try with_reducible rfl
      try simp only [Act.put, List.setIfInBounds_toArray, List.set_cons_zero, List.set_cons_succ, List.getElem_toArray, List.getElem_cons_succ, List.getElem_cons_zero]
      refine wpAnyH_take (i := 2) (oi := _) (v := ?_) rfl (by kernel_rfl) (by kernel_rfl) (by kernel_rfl) (fun _ _ _ h => h) (Or.inl ⟨by rfl, ?_⟩) (by assumption) ?_
      rotate_left
      · intro w hSw; (try dsimp only at hSw); go_simp; try with_reducible rfl
      try simp only [Act.put, List.setIfInBounds_toArray, List.set_cons_zero, List.set_cons_succ, List.getElem_toArray, List.getElem_cons_succ, List.getElem_cons_zero]
      refine wpAnyH_ready (rs := [3, 5]) (by kernel_rfl) (by simp) ?_
      refine AllReadyH.cons rfl (fun K hK => ?_) (AllReadyH.cons rfl (fun K hK => ?_) AllReadyH.nil)
      · go_simp
        go_wp2_with (go_at_call 20; refine (lwm_hid _ _ _).mono ?_; rintro e w8 ⟨qb, hq, rfl, rfl⟩)
        refine hK.out _ _ ?_ (fun hHeld => ?_)
        · exact BD.out.cells
        clear hK K
        refine wpAnyH_ready (rs := [4, 5]) (by kernel_rfl) (by simp) ?_
        refine AllReadyH.cons rfl (fun K hK => ?_) (AllReadyH.cons rfl (fun K hK => ?_) AllReadyH.nil)
        · go_simp
          go_wp2_with (go_at_call 19; refine (IM2.out qb hq _ BD.out).mono ?_; rintro e w7 ⟨s7, k7, l7, j7, ls7, rfl, q7t, q7o, q7e, b7⟩)
          have B7 := Lib.hid (BD.out.below b7)
          have G7 := Lib.hid (GD.out.below b7)
          have E7 : Hid (bareC ls7 = L) := q7e
          have T7 : Hid (w7.ownsRow 0 2 1 (.slice s7 tn k7) tn zv ∧ OwC w7 0 (.slice l7 ln j7) ls7) := ⟨own_mono q7t (Nat.zero_le _), q7o.mono (Nat.zero_le _)⟩
          clear q7t q7o q7e b7
          refine hK.out _ _ ?_ (fun hHeld => ?_)
          · exact B7.out.cells
          clear hK K
          refine wpAnyH_ready (rs := [5]) (by kernel_rfl) (by simp) ?_
          refine AllReadyH.cons rfl (fun K hK => ?_) AllReadyH.nil
          have BA := Lib.hid (B7.out.below (bA0 w7 (.cells #[.int .i64 0, .slice none 0 0, .slice none 0 0, .int .i64 0, .int .i64 0] 41)))
          have GA := Lib.hid (G7.out.below (bA0 w7 (.cells #[.int .i64 0, .slice none 0 0, .slice none 0 0, .int .i64 0, .int .i64 0] 41)))
          have XA : Hid (BoxO (w7.alloc (.cells #[.int .i64 0, .slice none 0 0, .slice none 0 0, .int .i64 0, .int .i64 0] 41)) w7.heap.size) := new_at _ _
          have NA : Hid (w.heap.size ≤ w7.heap.size ∧ b6 ≠ w7.heap.size) := ⟨B7.out.bel.size, fun e => by have := G7.out.box.facts.1; omega⟩
          have T8 : Hid ((w7.alloc (.cells #[.int .i64 0, .slice none 0 0, .slice none 0 0, .int .i64 0, .int .i64 0] 41)).ownsRow 0 2 1 (.slice s7 tn k7) tn zv ∧ OwC (w7.alloc (.cells #[.int .i64 0, .slice none 0 0, .slice none 0 0, .int .i64 0, .int .i64 0] 41)) 0 (.slice l7 ln j7) ls7) := ⟨own_below T7.out.1 (bA0 _ _), T7.out.2.below (bA0 _ _)⟩
          clear T7
          have T7 := T8
          clear T8
          go_simp
          refine hK.out _ _ ?_ (fun hHeld => ?_)
          · exact BA.out.cells
          clear hK K
          generalize w7.alloc (.cells #[.int .i64 0, .slice none 0 0, .slice none 0 0, .int .i64 0, .int .i64 0] 41) = wa at *
          generalize w7.heap.size = b7 at *
          refine wpAnyH_ready (rs := [6]) (by kernel_rfl) (by simp) ?_
          refine AllReadyH.cons rfl (fun K hK => ?_) AllReadyH.nil
          have OS : Only b7 wa (((((wa.setCell ⟨b7, 0, none⟩ (.int .i64 x)).setCell ⟨b7, 1, none⟩ (.slice s7 tn k7)).setCell ⟨b7, 2, none⟩ (.slice l7 ln j7)).setCell ⟨b7, 3, none⟩ (.int .i64 st)).setCell ⟨b7, 4, none⟩ (.int .i64 0)) := set5_only wa b7 _ _ _ _ _
          have BS := Lib.hid (BA.out.only OS XA.out NA.out.1)
          have GS := Lib.hid (GA.out.only OS XA.out NA.out.2)
          have YS : Hid (AN b7 s7 tn k7 l7 ln j7 x st 0 zv ls7 (((((wa.setCell ⟨b7, 0, none⟩ (.int .i64 x)).setCell ⟨b7, 1, none⟩ (.slice s7 tn k7)).setCell ⟨b7, 2, none⟩ (.slice l7 ln j7)).setCell ⟨b7, 3, none⟩ (.int .i64 st)).setCell ⟨b7, 4, none⟩ (.int .i64 0))) := ⟨⟨0, own_only T7.out.1 OS XA.out (by decide), own_only T7.out.2.row OS XA.out (by decide), (fun r hr => own_only (T7.out.2.each r hr) OS XA.out (by decide)), T7.out.2.diff⟩, set5_at XA.out⟩
          obtain ⟨zl, z0, z1, z2, z3, z4, f0, f1, f2, f3, f4⟩ := XA.out.facts
          clear OS
          go_simp
          refine hK.out _ _ ?_ (fun hHeld => ?_)
          · exact BS.out.cells
          clear hK K
          clear zl z0 z1 z2 z3 z4 f0 f1 f2 f3 f4 XA NA T7
          generalize (((((wa.setCell ⟨b7, 0, none⟩ (.int .i64 x)).setCell ⟨b7, 1, none⟩ (.slice s7 tn k7)).setCell ⟨b7, 2, none⟩ (.slice l7 ln j7)).setCell ⟨b7, 3, none⟩ (.int .i64 st)).setCell ⟨b7, 4, none⟩ (.int .i64 0)) = w9 at *
          refine wpAnyH_done (by kernel_rfl) ?_ _
          have BE := Lib.hid BS.out.drew
          have GE := Lib.hid GS.out.drew
          have YE := Lib.hid YS.out.drew
          go_wp2_with fail
          by_cases h1 : x = 1
          · have h1' : (x == 1) = true := by rw [h1]; rfl
            refine wp_region_held_drew (S := fun W => (b3 < W.heap.size ∧ W.cell? ⟨b3, 0, none⟩ = some (.int .i64 vars) ∧ W.cell? ⟨b3, 1, none⟩ = some (.slice vs n vk)) ∧ b6 < W.heap.size ∧ W.cell? ⟨b6, 0, none⟩ = some (.int .i64 x) ∧ W.cell? ⟨b6, 1, none⟩ = some (.slice s6 tn k6)) (by kernel_rfl) ?_ (fun hHeld => ?_)
            · exact ⟨BE.out.cells, GE.out.two⟩
            refine wpAnyH_take (i := 0) (oi := _) (v := ?_) rfl (by kernel_rfl) (by kernel_rfl) (by kernel_rfl) (fun _ _ _ h => h) (Or.inl ⟨by rfl, ?_⟩) (by assumption) ?_
            rotate_left
            · intro w hSw; (try dsimp only at hSw); go_simp; try with_reducible rfl
            try simp only [Act.put, List.setIfInBounds_toArray, List.set_cons_zero, List.set_cons_succ, List.getElem_toArray, List.getElem_cons_zero]
            refine wpAnyH_take (i := 1) (oi := _) (v := ?_) rfl (by kernel_rfl) (by kernel_rfl) (by kernel_rfl) (fun _ _ _ h => h) (Or.inl ⟨by rfl, ?_⟩) (by assumption) ?_
            rotate_left
            · intro w hSw; (try dsimp only at hSw); go_simp; try with_reducible rfl
            try simp only [Act.put, List.setIfInBounds_toArray, List.set_cons_zero, List.set_cons_succ, List.getElem_toArray, List.getElem_cons_succ, List.getElem_cons_zero]
            refine wpAnyH_take (i := 2) (oi := _) (v := ?_) rfl (by kernel_rfl) (by kernel_rfl) (by kernel_rfl) (fun _ _ _ h => h) (Or.inl ⟨by rfl, ?_⟩) (by assumption) ?_
            rotate_left
            · intro w hSw; (try dsimp only at hSw); go_simp; try with_reducible rfl
            try simp only [Act.put, List.setIfInBounds_toArray, List.set_cons_zero, List.set_cons_succ, List.getElem_toArray, List.getElem_cons_succ, List.getElem_cons_zero]
            refine wpAnyH_take (i := 3) (oi := _) (v := ?_) rfl (by kernel_rfl) (by kernel_rfl) (by kernel_rfl) (fun _ _ _ h => h) (Or.inl ⟨by rfl, ?_⟩) (by assumption) ?_
            rotate_left
            · intro w hSw; (try dsimp only at hSw); go_simp; try with_reducible rfl
            try simp only [Act.put, List.setIfInBounds_toArray, List.set_cons_zero, List.set_cons_succ, List.getElem_toArray, List.getElem_cons_succ, List.getElem_cons_zero]
            refine wpAnyH_take (i := 4) (oi := _) (v := ?_) rfl (by kernel_rfl) (by kernel_rfl) (by kernel_rfl) (fun _ _ _ h => h) (Or.inl ⟨by rfl, ?_⟩) (by assumption) ?_
            rotate_left
            · intro w hSw; (try dsimp only at hSw); go_simp; try with_reducible rfl
            try simp only [Act.put, List.setIfInBounds_toArray, List.set_cons_zero, List.set_cons_succ, List.getElem_toArray, List.getElem_cons_succ, List.getElem_cons_zero]
            refine wpAnyH_take (i := 5) (oi := _) (v := ?_) rfl (by kernel_rfl) (by kernel_rfl) (by kernel_rfl) (fun _ _ _ h => h) (Or.inl ⟨by rfl, ?_⟩) (by assumption) ?_
            rotate_left
            · intro w hSw; (try dsimp only at hSw); go_simp; try with_reducible rfl
            try simp only [Act.put, List.setIfInBounds_toArray, List.set_cons_zero, List.set_cons_succ, List.getElem_toArray, List.getElem_cons_succ, List.getElem_cons_zero]
            refine wpAnyH_take (i := 6) (oi := _) (v := ?_) rfl (by kernel_rfl) (by kernel_rfl) (by kernel_rfl) (fun _ _ _ h => h) (Or.inl ⟨by rfl, ?_⟩) (by assumption) ?_
            rotate_left
            · intro w hSw; (try dsimp only at hSw); go_simp; try with_reducible rfl
            try simp only [Act.put, List.setIfInBounds_toArray, List.set_cons_zero, List.set_cons_succ, List.getElem_toArray, List.getElem_cons_succ, List.getElem_cons_zero]
            refine wpAnyH_ready (rs := [7]) (by kernel_rfl) (by simp) ?_
            refine AllReadyH.cons rfl (fun K hK => ?_) AllReadyH.nil
            go_simp
            go_wp2_with (go_at_call 12; refine (LC.out _ _ _ _ _ _ _ GE.out).mono ?_; rintro e w10 ⟨s10, k10, rfl, q10, b10⟩)
            have BF := Lib.hid (BE.out.below b10)
            have GF := Lib.hid (GE.out.below b10)
            have YF := Lib.hid (YE.out.below b10)
            have QF := Lib.hid q10
            clear q10 b10
            refine hK.out _ _ ?_ (fun hHeld => ?_)
            · exact ⟨BF.out.cells, GF.out.two⟩
            clear hK K
            refine wpAnyH_ready (rs := [8]) (by kernel_rfl) (by simp) ?_
            refine AllReadyH.cons rfl (fun K hK => ?_) AllReadyH.nil
            go_simp
            go_wp2_with (go_at_call 21; refine (CT.out h1 _ _ _ _ BF.out QF.out).mono ?_; rintro e w11 ⟨rfl, b11⟩)
            have BG := Lib.hid (BF.out.below b11)
            have GG := Lib.hid (GF.out.below b11)
            have YG := Lib.hid (YF.out.below b11)
            clear b11
            refine hK.out _ _ ?_ (fun hHeld => ?_)
            · exact ⟨BG.out.cells, GG.out.two⟩
            clear hK K
            refine wpAnyH_take (i := 9) (oi := _) (v := ?_) rfl (by kernel_rfl) (by kernel_rfl) (by kernel_rfl) (fun _ _ _ h => h) (Or.inl ⟨by rfl, ?_⟩) (by assumption) ?_
            rotate_left
            · intro w hSw; (try dsimp only at hSw); go_simp; try with_reducible rfl
            try simp only [Act.put, List.setIfInBounds_toArray, List.set_cons_zero, List.set_cons_succ, List.getElem_toArray, List.getElem_cons_succ, List.getElem_cons_zero]
            refine wpAnyH_take (i := 10) (oi := _) (v := ?_) rfl (by kernel_rfl) (by kernel_rfl) (by kernel_rfl) (fun _ _ _ h => h) (Or.inl ⟨by rfl, ?_⟩) (by assumption) ?_
            rotate_left
            · intro w hSw; (try dsimp only at hSw); go_simp; try with_reducible rfl
            try simp only [Act.put, List.setIfInBounds_toArray, List.set_cons_zero, List.set_cons_succ, List.getElem_toArray, List.getElem_cons_succ, List.getElem_cons_zero]
            refine wpAnyH_done (by kernel_rfl) ?_ _
            obtain ⟨yl, y0, y1, y2, y3, y4⟩ := YG.out.box.facts
            obtain ⟨gl, g0, g1, g2, g3, g4⟩ := GG.out.box.facts
            have L12 := Lib.hid (LS.out _ _ _ _ _ _ _ _ _ _ _ _ _ YG.out GG.out)
            go_wp2_with fail
            refine L12.out.mono ?_
            rintro e w13 ⟨rfl, b13⟩
            have BH := Lib.hid (BG.out.below b13)
            have GH := Lib.hid (GG.out.below b13)
            have YH := Lib.hid (YG.out.below b13)
            clear b13 L12 yl y0 y1 y2 y3 y4 gl g0 g1 g2 g3 g4 BG GG YG
            obtain ⟨yl, y0, y1, y2, y3, y4⟩ := YH.out.box.facts
            obtain ⟨gl, g0, g1, g2, g3, g4⟩ := GH.out.box.facts
            have L13 := Lib.hid (LL.out _ _ _ _ _ _ _ _ _ _ _ _ _ E7.out E6.out YH.out GH.out)
            go_wp2_with fail
            refine L13.out.mono ?_
            rintro e w14 ⟨rfl, b14⟩
            have BI := Lib.hid (BH.out.below b14)
            have GI := Lib.hid (GH.out.below b14)
            have YI := Lib.hid (YH.out.below b14)
            clear b14 L13 yl y0 y1 y2 y3 y4 gl g0 g1 g2 g3 g4 BH GH YH
            obtain ⟨yl, y0, y1, y2, y3, y4⟩ := YI.out.box.facts
            obtain ⟨gl, g0, g1, g2, g3, g4⟩ := GI.out.box.facts
            go_wp2
            go_ret
            exact ⟨rfl, BI.out.bel⟩
          · have h1' : (x == 1) = false := beq_eq_false_iff_ne.2 h1
            refine wp_region_held_drew (S := fun W => (b3 < W.heap.size ∧ W.cell? ⟨b3, 0, none⟩ = some (.int .i64 vars) ∧ W.cell? ⟨b3, 1, none⟩ = some (.slice vs n vk)) ∧ b6 < W.heap.size ∧ W.cell? ⟨b6, 0, none⟩ = some (.int .i64 x) ∧ W.cell? ⟨b6, 1, none⟩ = some (.slice s6 tn k6)) (by kernel_rfl) ?_ (fun hHeld => ?_)
            · exact ⟨BE.out.cells, GE.out.two⟩
            refine wpAnyH_take (i := 0) (oi := _) (v := ?_) rfl (by kernel_rfl) (by kernel_rfl) (by kernel_rfl) (fun _ _ _ h => h) (Or.inl ⟨by rfl, ?_⟩) (by assumption) ?_
            rotate_left
            · intro w hSw; (try dsimp only at hSw); go_simp; try with_reducible rfl
            try simp only [Act.put, List.setIfInBounds_toArray, List.set_cons_zero, List.set_cons_succ, List.getElem_toArray, List.getElem_cons_zero]
            refine wpAnyH_take (i := 1) (oi := _) (v := ?_) rfl (by kernel_rfl) (by kernel_rfl) (by kernel_rfl) (fun _ _ _ h => h) (Or.inl ⟨by rfl, ?_⟩) (by assumption) ?_
            rotate_left
            · intro w hSw; (try dsimp only at hSw); go_simp; try with_reducible rfl
            try simp only [Act.put, List.setIfInBounds_toArray, List.set_cons_zero, List.set_cons_succ, List.getElem_toArray, List.getElem_cons_succ, List.getElem_cons_zero]
            refine wpAnyH_take (i := 2) (oi := _) (v := ?_) rfl (by kernel_rfl) (by kernel_rfl) (by kernel_rfl) (fun _ _ _ h => h) (Or.inl ⟨by rfl, ?_⟩) (by assumption) ?_
            rotate_left
            · intro w hSw; (try dsimp only at hSw); go_simp; try with_reducible rfl
            try simp only [Act.put, List.setIfInBounds_toArray, List.set_cons_zero, List.set_cons_succ, List.getElem_toArray, List.getElem_cons_succ, List.getElem_cons_zero]
            refine wpAnyH_take (i := 3) (oi := _) (v := ?_) rfl (by kernel_rfl) (by kernel_rfl) (by kernel_rfl) (fun _ _ _ h => h) (Or.inl ⟨by rfl, ?_⟩) (by assumption) ?_
            rotate_left
            · intro w hSw; (try dsimp only at hSw); go_simp; try with_reducible rfl
            try simp only [Act.put, List.setIfInBounds_toArray, List.set_cons_zero, List.set_cons_succ, List.getElem_toArray, List.getElem_cons_succ, List.getElem_cons_zero]
            refine wpAnyH_take (i := 4) (oi := _) (v := undef) rfl (by kernel_rfl) (by kernel_rfl) (by kernel_rfl) (fun _ _ _ h => h) (Or.inr ⟨by rfl, rfl⟩) (by assumption) ?_
            try simp only [Act.put, List.setIfInBounds_toArray, List.set_cons_zero, List.set_cons_succ, List.getElem_toArray, List.getElem_cons_succ, List.getElem_cons_zero]
            refine wpAnyH_take (i := 5) (oi := _) (v := undef) rfl (by kernel_rfl) (by kernel_rfl) (by kernel_rfl) (fun _ _ _ h => h) (Or.inr ⟨by rfl, rfl⟩) (by assumption) ?_
            try simp only [Act.put, List.setIfInBounds_toArray, List.set_cons_zero, List.set_cons_succ, List.getElem_toArray, List.getElem_cons_succ, List.getElem_cons_zero]
            refine wpAnyH_take (i := 6) (oi := _) (v := undef) rfl (by kernel_rfl) (by kernel_rfl) (by kernel_rfl) (fun _ _ _ h => h) (Or.inr ⟨by rfl, rfl⟩) (by assumption) ?_
            try simp only [Act.put, List.setIfInBounds_toArray, List.set_cons_zero, List.set_cons_succ, List.getElem_toArray, List.getElem_cons_succ, List.getElem_cons_zero]
            refine wpAnyH_take (i := 7) (oi := _) (v := undef) rfl (by kernel_rfl) (by kernel_rfl) (by kernel_rfl) (fun _ _ _ h => h) (Or.inr ⟨by rfl, rfl⟩) (by assumption) ?_
            try simp only [Act.put, List.setIfInBounds_toArray, List.set_cons_zero, List.set_cons_succ, List.getElem_toArray, List.getElem_cons_succ, List.getElem_cons_zero]
            refine wpAnyH_take (i := 8) (oi := _) (v := undef) rfl (by kernel_rfl) (by kernel_rfl) (by kernel_rfl) (fun _ _ _ h => h) (Or.inr ⟨by rfl, rfl⟩) (by assumption) ?_
            try simp only [Act.put, List.setIfInBounds_toArray, List.set_cons_zero, List.set_cons_succ, List.getElem_toArray, List.getElem_cons_succ, List.getElem_cons_zero]
            refine wpAnyH_take (i := 9) (oi := _) (v := undef) rfl (by kernel_rfl) (by kernel_rfl) (by kernel_rfl) (fun _ _ _ h => h) (Or.inr ⟨by rfl, rfl⟩) (by assumption) ?_
            try simp only [Act.put, List.setIfInBounds_toArray, List.set_cons_zero, List.set_cons_succ, List.getElem_toArray, List.getElem_cons_succ, List.getElem_cons_zero]
            refine wpAnyH_take (i := 10) (oi := _) (v := ?_) rfl (by kernel_rfl) (by kernel_rfl) (by kernel_rfl) (fun _ _ _ h => h) (Or.inl ⟨by rfl, ?_⟩) (by assumption) ?_
            rotate_left
            · intro w hSw; (try dsimp only at hSw); go_simp; try with_reducible rfl
            try simp only [Act.put, List.setIfInBounds_toArray, List.set_cons_zero, List.set_cons_succ, List.getElem_toArray, List.getElem_cons_succ, List.getElem_cons_zero]
            refine wpAnyH_done (by kernel_rfl) ?_ _
            have BG := BE
            have GG := GE
            have YG := YE
            obtain ⟨yl, y0, y1, y2, y3, y4⟩ := YG.out.box.facts
            obtain ⟨gl, g0, g1, g2, g3, g4⟩ := GG.out.box.facts
            have L12 := Lib.hid (LS.out _ _ _ _ _ _ _ _ _ _ _ _ _ YG.out GG.out)
            go_wp2_with fail
            refine L12.out.mono ?_
            rintro e w13 ⟨rfl, b13⟩
            have BH := Lib.hid (BG.out.below b13)
            have GH := Lib.hid (GG.out.below b13)
            have YH := Lib.hid (YG.out.below b13)
            clear b13 L12 yl y0 y1 y2 y3 y4 gl g0 g1 g2 g3 g4 BG GG YG
            obtain ⟨yl, y0, y1, y2, y3, y4⟩ := YH.out.box.facts
            obtain ⟨gl, g0, g1, g2, g3, g4⟩ := GH.out.box.facts
            have L13 := Lib.hid (LL.out _ _ _ _ _ _ _ _ _ _ _ _ _ E7.out E6.out YH.out GH.out)
            go_wp2_with fail
            refine L13.out.mono ?_
            rintro e w14 ⟨rfl, b14⟩
            have BI := Lib.hid (BH.out.below b14)
            have GI := Lib.hid (GH.out.below b14)
            have YI := Lib.hid (YH.out.below b14)
            clear b14 L13 yl y0 y1 y2 y3 y4 gl g0 g1 g2 g3 g4 BH GH YH
            obtain ⟨yl, y0, y1, y2, y3, y4⟩ := YI.out.box.facts
            obtain ⟨gl, g0, g1, g2, g3, g4⟩ := GI.out.box.facts
            go_wp2
            go_ret
            exact ⟨rfl, BI.out.bel⟩
        · have BA := Lib.hid (BD.out.below (bA0 wd (.cells #[.int .i64 0, .slice none 0 0, .slice none 0 0, .int .i64 0, .int .i64 0] 41)))
          have GA := Lib.hid (GD.out.below (bA0 wd (.cells #[.int .i64 0, .slice none 0 0, .slice none 0 0, .int .i64 0, .int .i64 0] 41)))
          have XA : Hid (BoxO (wd.alloc (.cells #[.int .i64 0, .slice none 0 0, .slice none 0 0, .int .i64 0, .int .i64 0] 41)) wd.heap.size) := new_at _ _
          have NA : Hid (w.heap.size ≤ wd.heap.size ∧ b6 ≠ wd.heap.size) := ⟨BD.out.bel.size, fun e => by have := GD.out.box.facts.1; omega⟩
          go_simp
          refine hK.out _ _ ?_ (fun hHeld => ?_)
          · exact BA.out.cells
          clear hK K
          generalize wd.alloc (.cells #[.int .i64 0, .slice none 0 0, .slice none 0 0, .int .i64 0, .int .i64 0] 41) = wa at *
          generalize wd.heap.size = b7 at *
          refine wpAnyH_ready (rs := [4]) (by kernel_rfl) (by simp) ?_
          refine AllReadyH.cons rfl (fun K hK => ?_) AllReadyH.nil
          go_simp
          go_wp2_with (go_at_call 19; refine (IM2.out qb hq _ BA.out).mono ?_; rintro e w7 ⟨s7, k7, l7, j7, ls7, rfl, q7t, q7o, q7e, b7'⟩)
          have B7 := Lib.hid (BA.out.below b7')
          have G7 := Lib.hid (GA.out.below b7')
          have XB := Lib.hid (XA.out.below b7')
          have E7 : Hid (bareC ls7 = L) := q7e
          have T7 : Hid (w7.ownsRow 0 2 1 (.slice s7 tn k7) tn zv ∧ OwC w7 0 (.slice l7 ln j7) ls7) := ⟨own_mono q7t (Nat.zero_le _), q7o.mono (Nat.zero_le _)⟩
          clear q7t q7o q7e b7' XA
          have XA := XB
          refine hK.out _ _ ?_ (fun hHeld => ?_)
          · exact B7.out.cells
          clear hK K
          refine wpAnyH_ready (rs := [6]) (by kernel_rfl) (by simp) ?_
          refine AllReadyH.cons rfl (fun K hK => ?_) AllReadyH.nil
          have OS : Only b7 w7 (((((w7.setCell ⟨b7, 0, none⟩ (.int .i64 x)).setCell ⟨b7, 1, none⟩ (.slice s7 tn k7)).setCell ⟨b7, 2, none⟩ (.slice l7 ln j7)).setCell ⟨b7, 3, none⟩ (.int .i64 st)).setCell ⟨b7, 4, none⟩ (.int .i64 0)) := set5_only w7 b7 _ _ _ _ _
          have BS := Lib.hid (B7.out.only OS XA.out NA.out.1)
          have GS := Lib.hid (G7.out.only OS XA.out NA.out.2)
          have YS : Hid (AN b7 s7 tn k7 l7 ln j7 x st 0 zv ls7 (((((w7.setCell ⟨b7, 0, none⟩ (.int .i64 x)).setCell ⟨b7, 1, none⟩ (.slice s7 tn k7)).setCell ⟨b7, 2, none⟩ (.slice l7 ln j7)).setCell ⟨b7, 3, none⟩ (.int .i64 st)).setCell ⟨b7, 4, none⟩ (.int .i64 0))) := ⟨⟨0, own_only T7.out.1 OS XA.out (by decide), own_only T7.out.2.row OS XA.out (by decide), (fun r hr => own_only (T7.out.2.each r hr) OS XA.out (by decide)), T7.out.2.diff⟩, set5_at XA.out⟩
          obtain ⟨zl, z0, z1, z2, z3, z4, f0, f1, f2, f3, f4⟩ := XA.out.facts
          clear OS
          go_simp
          refine hK.out _ _ ?_ (fun hHeld => ?_)
          · exact BS.out.cells
          clear hK K
          clear zl z0 z1 z2 z3 z4 f0 f1 f2 f3 f4 XA NA T7
          generalize (((((w7.setCell ⟨b7, 0, none⟩ (.int .i64 x)).setCell ⟨b7, 1, none⟩ (.slice s7 tn k7)).setCell ⟨b7, 2, none⟩ (.slice l7 ln j7)).setCell ⟨b7, 3, none⟩ (.int .i64 st)).setCell ⟨b7, 4, none⟩ (.int .i64 0)) = w9 at *
          refine wpAnyH_done (by kernel_rfl) ?_ _
          have BE := Lib.hid BS.out.drew
          have GE := Lib.hid GS.out.drew
          have YE := Lib.hid YS.out.drew
          go_wp2_with fail
          by_cases h1 : x = 1
          · have h1' : (x == 1) = true := by rw [h1]; rfl
            refine wp_region_held_drew (S := fun W => (b3 < W.heap.size ∧ W.cell? ⟨b3, 0, none⟩ = some (.int .i64 vars) ∧ W.cell? ⟨b3, 1, none⟩ = some (.slice vs n vk)) ∧ b6 < W.heap.size ∧ W.cell? ⟨b6, 0, none⟩ = some (.int .i64 x) ∧ W.cell? ⟨b6, 1, none⟩ = some (.slice s6 tn k6)) (by kernel_rfl) ?_ (fun hHeld => ?_)
            · exact ⟨BE.out.cells, GE.out.two⟩
            refine wpAnyH_take (i := 0) (oi := _) (v := ?_) rfl (by kernel_rfl) (by kernel_rfl) (by kernel_rfl) (fun _ _ _ h => h) (Or.inl ⟨by rfl, ?_⟩) (by assumption) ?_
            rotate_left
            · intro w hSw; (try dsimp only at hSw); go_simp; try with_reducible rfl
            try simp only [Act.put, List.setIfInBounds_toArray, List.set_cons_zero, List.set_cons_succ, List.getElem_toArray, List.getElem_cons_zero]
            refine wpAnyH_take (i := 1) (oi := _) (v := ?_) rfl (by kernel_rfl) (by kernel_rfl) (by kernel_rfl) (fun _ _ _ h => h) (Or.inl ⟨by rfl, ?_⟩) (by assumption) ?_
            rotate_left
            · intro w hSw; (try dsimp only at hSw); go_simp; try with_reducible rfl
            try simp only [Act.put, List.setIfInBounds_toArray, List.set_cons_zero, List.set_cons_succ, List.getElem_toArray, List.getElem_cons_succ, List.getElem_cons_zero]
            refine wpAnyH_take (i := 2) (oi := _) (v := ?_) rfl (by kernel_rfl) (by kernel_rfl) (by kernel_rfl) (fun _ _ _ h => h) (Or.inl ⟨by rfl, ?_⟩) (by assumption) ?_
            rotate_left
            · intro w hSw; (try dsimp only at hSw); go_simp; try with_reducible rfl
            try simp only [Act.put, List.setIfInBounds_toArray, List.set_cons_zero, List.set_cons_succ, List.getElem_toArray, List.getElem_cons_succ, List.getElem_cons_zero]
            refine wpAnyH_take (i := 3) (oi := _) (v := ?_) rfl (by kernel_rfl) (by kernel_rfl) (by kernel_rfl) (fun _ _ _ h => h) (Or.inl ⟨by rfl, ?_⟩) (by assumption) ?_
            rotate_left
            · intro w hSw; (try dsimp only at hSw); go_simp; try with_reducible rfl
            try simp only [Act.put, List.setIfInBounds_toArray, List.set_cons_zero, List.set_cons_succ, List.getElem_toArray, List.getElem_cons_succ, List.getElem_cons_zero]
            refine wpAnyH_take (i := 4) (oi := _) (v := ?_) rfl (by kernel_rfl) (by kernel_rfl) (by kernel_rfl) (fun _ _ _ h => h) (Or.inl ⟨by rfl, ?_⟩) (by assumption) ?_
            rotate_left
            · intro w hSw; (try dsimp only at hSw); go_simp; try with_reducible rfl
            try simp only [Act.put, List.setIfInBounds_toArray, List.set_cons_zero, List.set_cons_succ, List.getElem_toArray, List.getElem_cons_succ, List.getElem_cons_zero]
            refine wpAnyH_take (i := 5) (oi := _) (v := ?_) rfl (by kernel_rfl) (by kernel_rfl) (by kernel_rfl) (fun _ _ _ h => h) (Or.inl ⟨by rfl, ?_⟩) (by assumption) ?_
            rotate_left
            · intro w hSw; (try dsimp only at hSw); go_simp; try with_reducible rfl
            try simp only [Act.put, List.setIfInBounds_toArray, List.set_cons_zero, List.set_cons_succ, List.getElem_toArray, List.getElem_cons_succ, List.getElem_cons_zero]
            refine wpAnyH_take (i := 6) (oi := _) (v := ?_) rfl (by kernel_rfl) (by kernel_rfl) (by kernel_rfl) (fun _ _ _ h => h) (Or.inl ⟨by rfl, ?_⟩) (by assumption) ?_
            rotate_left
            · intro w hSw; (try dsimp only at hSw); go_simp; try with_reducible rfl
            try simp only [Act.put, List.setIfInBounds_toArray, List.set_cons_zero, List.set_cons_succ, List.getElem_toArray, List.getElem_cons_succ, List.getElem_cons_zero]
            refine wpAnyH_ready (rs := [7]) (by kernel_rfl) (by simp) ?_
            refine AllReadyH.cons rfl (fun K hK => ?_) AllReadyH.nil
            go_simp
            go_wp2_with (go_at_call 12; refine (LC.out _ _ _ _ _ _ _ GE.out).mono ?_; rintro e w10 ⟨s10, k10, rfl, q10, b10⟩)
            have BF := Lib.hid (BE.out.below b10)
            have GF := Lib.hid (GE.out.below b10)
            have YF := Lib.hid (YE.out.below b10)
            have QF := Lib.hid q10
            clear q10 b10
            refine hK.out _ _ ?_ (fun hHeld => ?_)
            · exact ⟨BF.out.cells, GF.out.two⟩
            clear hK K
            refine wpAnyH_ready (rs := [8]) (by kernel_rfl) (by simp) ?_
            refine AllReadyH.cons rfl (fun K hK => ?_) AllReadyH.nil
            go_simp
            go_wp2_with (go_at_call 21; refine (CT.out h1 _ _ _ _ BF.out QF.out).mono ?_; rintro e w11 ⟨rfl, b11⟩)
            have BG := Lib.hid (BF.out.below b11)
            have GG := Lib.hid (GF.out.below b11)
            have YG := Lib.hid (YF.out.below b11)
            clear b11
            refine hK.out _ _ ?_ (fun hHeld => ?_)
            · exact ⟨BG.out.cells, GG.out.two⟩
            clear hK K
            refine wpAnyH_take (i := 9) (oi := _) (v := ?_) rfl (by kernel_rfl) (by kernel_rfl) (by kernel_rfl) (fun _ _ _ h => h) (Or.inl ⟨by rfl, ?_⟩) (by assumption) ?_
            rotate_left
            · intro w hSw; (try dsimp only at hSw); go_simp; try with_reducible rfl
            try simp only [Act.put, List.setIfInBounds_toArray, List.set_cons_zero, List.set_cons_succ, List.getElem_toArray, List.getElem_cons_succ, List.getElem_cons_zero]
            refine wpAnyH_take (i := 10) (oi := _) (v := ?_) rfl (by kernel_rfl) (by kernel_rfl) (by kernel_rfl) (fun _ _ _ h => h) (Or.inl ⟨by rfl, ?_⟩) (by assumption) ?_
            rotate_left
            · intro w hSw; (try dsimp only at hSw); go_simp; try with_reducible rfl
            try simp only [Act.put, List.setIfInBounds_toArray, List.set_cons_zero, List.set_cons_succ, List.getElem_toArray, List.getElem_cons_succ, List.getElem_cons_zero]
            refine wpAnyH_done (by kernel_rfl) ?_ _
            obtain ⟨yl, y0, y1, y2, y3, y4⟩ := YG.out.box.facts
            obtain ⟨gl, g0, g1, g2, g3, g4⟩ := GG.out.box.facts
            have L12 := Lib.hid (LS.out _ _ _ _ _ _ _ _ _ _ _ _ _ YG.out GG.out)
            go_wp2_with fail
            refine L12.out.mono ?_
            rintro e w13 ⟨rfl, b13⟩
            have BH := Lib.hid (BG.out.below b13)
            have GH := Lib.hid (GG.out.below b13)
            have YH := Lib.hid (YG.out.below b13)
            clear b13 L12 yl y0 y1 y2 y3 y4 gl g0 g1 g2 g3 g4 BG GG YG
            obtain ⟨yl, y0, y1, y2, y3, y4⟩ := YH.out.box.facts
            obtain ⟨gl, g0, g1, g2, g3, g4⟩ := GH.out.box.facts
            have L13 := Lib.hid (LL.out _ _ _ _ _ _ _ _ _ _ _ _ _ E7.out E6.out YH.out GH.out)
            go_wp2_with fail
            refine L13.out.mono ?_
            rintro e w14 ⟨rfl, b14⟩
            have BI := Lib.hid (BH.out.below b14)
            have GI := Lib.hid (GH.out.below b14)
            have YI := Lib.hid (YH.out.below b14)
            clear b14 L13 yl y0 y1 y2 y3 y4 gl g0 g1 g2 g3 g4 BH GH YH
            obtain ⟨yl, y0, y1, y2, y3, y4⟩ := YI.out.box.facts
            obtain ⟨gl, g0, g1, g2, g3, g4⟩ := GI.out.box.facts
            go_wp2
            go_ret
            exact ⟨rfl, BI.out.bel⟩
          · have h1' : (x == 1) = false := beq_eq_false_iff_ne.2 h1
            refine wp_region_held_drew (S := fun W => (b3 < W.heap.size ∧ W.cell? ⟨b3, 0, none⟩ = some (.int .i64 vars) ∧ W.cell? ⟨b3, 1, none⟩ = some (.slice vs n vk)) ∧ b6 < W.heap.size ∧ W.cell? ⟨b6, 0, none⟩ = some (.int .i64 x) ∧ W.cell? ⟨b6, 1, none⟩ = some (.slice s6 tn k6)) (by kernel_rfl) ?_ (fun hHeld => ?_)
            · exact ⟨BE.out.cells, GE.out.two⟩
            refine wpAnyH_take (i := 0) (oi := _) (v := ?_) rfl (by kernel_rfl) (by kernel_rfl) (by kernel_rfl) (fun _ _ _ h => h) (Or.inl ⟨by rfl, ?_⟩) (by assumption) ?_
            rotate_left
            · intro w hSw; (try dsimp only at hSw); go_simp; try with_reducible rfl
            try simp only [Act.put, List.setIfInBounds_toArray, List.set_cons_zero, List.set_cons_succ, List.getElem_toArray, List.getElem_cons_zero]
            refine wpAnyH_take (i := 1) (oi := _) (v := ?_) rfl (by kernel_rfl) (by kernel_rfl) (by kernel_rfl) (fun _ _ _ h => h) (Or.inl ⟨by rfl, ?_⟩) (by assumption) ?_
            rotate_left
            · intro w hSw; (try dsimp only at hSw); go_simp; try with_reducible rfl
            try simp only [Act.put, List.setIfInBounds_toArray, List.set_cons_zero, List.set_cons_succ, List.getElem_toArray, List.getElem_cons_succ, List.getElem_cons_zero]
            refine wpAnyH_take (i := 2) (oi := _) (v := ?_) rfl (by kernel_rfl) (by kernel_rfl) (by kernel_rfl) (fun _ _ _ h => h) (Or.inl ⟨by rfl, ?_⟩) (by assumption) ?_
            rotate_left
            · intro w hSw; (try dsimp only at hSw); go_simp; try with_reducible rfl
            try simp only [Act.put, List.setIfInBounds_toArray, List.set_cons_zero, List.set_cons_succ, List.getElem_toArray, List.getElem_cons_succ, List.getElem_cons_zero]
            refine wpAnyH_take (i := 3) (oi := _) (v := ?_) rfl (by kernel_rfl) (by kernel_rfl) (by kernel_rfl) (fun _ _ _ h => h) (Or.inl ⟨by rfl, ?_⟩) (by assumption) ?_
            rotate_left
            · intro w hSw; (try dsimp only at hSw); go_simp; try with_reducible rfl
            try simp only [Act.put, List.setIfInBounds_toArray, List.set_cons_zero, List.set_cons_succ, List.getElem_toArray, List.getElem_cons_succ, List.getElem_cons_zero]
            refine wpAnyH_take (i := 4) (oi := _) (v := undef) rfl (by kernel_rfl) (by kernel_rfl) (by kernel_rfl) (fun _ _ _ h => h) (Or.inr ⟨by rfl, rfl⟩) (by assumption) ?_
            try simp only [Act.put, List.setIfInBounds_toArray, List.set_cons_zero, List.set_cons_succ, List.getElem_toArray, List.getElem_cons_succ, List.getElem_cons_zero]
            refine wpAnyH_take (i := 5) (oi := _) (v := undef) rfl (by kernel_rfl) (by kernel_rfl) (by kernel_rfl) (fun _ _ _ h => h) (Or.inr ⟨by rfl, rfl⟩) (by assumption) ?_
            try simp only [Act.put, List.setIfInBounds_toArray, List.set_cons_zero, List.set_cons_succ, List.getElem_toArray, List.getElem_cons_succ, List.getElem_cons_zero]
            refine wpAnyH_take (i := 6) (oi := _) (v := undef) rfl (by kernel_rfl) (by kernel_rfl) (by kernel_rfl) (fun _ _ _ h => h) (Or.inr ⟨by rfl, rfl⟩) (by assumption) ?_
            try simp only [Act.put, List.setIfInBounds_toArray, List.set_cons_zero, List.set_cons_succ, List.getElem_toArray, List.getElem_cons_succ, List.getElem_cons_zero]
            refine wpAnyH_take (i := 7) (oi := _) (v := undef) rfl (by kernel_rfl) (by kernel_rfl) (by kernel_rfl) (fun _ _ _ h => h) (Or.inr ⟨by rfl, rfl⟩) (by assumption) ?_
            try simp only [Act.put, List.setIfInBounds_toArray, List.set_cons_zero, List.set_cons_succ, List.getElem_toArray, List.getElem_cons_succ, List.getElem_cons_zero]
            refine wpAnyH_take (i := 8) (oi := _) (v := undef) rfl (by kernel_rfl) (by kernel_rfl) (by kernel_rfl) (fun _ _ _ h => h) (Or.inr ⟨by rfl, rfl⟩) (by assumption) ?_
            try simp only [Act.put, List.setIfInBounds_toArray, List.set_cons_zero, List.set_cons_succ, List.getElem_toArray, List.getElem_cons_succ, List.getElem_cons_zero]
            refine wpAnyH_take (i := 9) (oi := _) (v := undef) rfl (by kernel_rfl) (by kernel_rfl) (by kernel_rfl) (fun _ _ _ h => h) (Or.inr ⟨by rfl, rfl⟩) (by assumption) ?_
            try simp only [Act.put, List.setIfInBounds_toArray, List.set_cons_zero, List.set_cons_succ, List.getElem_toArray, List.getElem_cons_succ, List.getElem_cons_zero]
            refine wpAnyH_take (i := 10) (oi := _) (v := ?_) rfl (by kernel_rfl) (by kernel_rfl) (by kernel_rfl) (fun _ _ _ h => h) (Or.inl ⟨by rfl, ?_⟩) (by assumption) ?_
            rotate_left
            · intro w hSw; (try dsimp only at hSw); go_simp; try with_reducible rfl
            try simp only [Act.put, List.setIfInBounds_toArray, List.set_cons_zero, List.set_cons_succ, List.getElem_toArray, List.getElem_cons_succ, List.getElem_cons_zero]
            refine wpAnyH_done (by kernel_rfl) ?_ _
            have BG := BE
            have GG := GE
            have YG := YE
            obtain ⟨yl, y0, y1, y2, y3, y4⟩ := YG.out.box.facts
            obtain ⟨gl, g0, g1, g2, g3, g4⟩ := GG.out.box.facts
            have L12 := Lib.hid (LS.out _ _ _ _ _ _ _ _ _ _ _ _ _ YG.out GG.out)
            go_wp2_with fail
            refine L12.out.mono ?_
            rintro e w13 ⟨rfl, b13⟩
            have BH := Lib.hid (BG.out.below b13)
            have GH := Lib.hid (GG.out.below b13)
            have YH := Lib.hid (YG.out.below b13)
            clear b13 L12 yl y0 y1 y2 y3 y4 gl g0 g1 g2 g3 g4 BG GG YG
            obtain ⟨yl, y0, y1, y2, y3, y4⟩ := YH.out.box.facts
            obtain ⟨gl, g0, g1, g2, g3, g4⟩ := GH.out.box.facts
            have L13 := Lib.hid (LL.out _ _ _ _ _ _ _ _ _ _ _ _ _ E7.out E6.out YH.out GH.out)
            go_wp2_with fail
            refine L13.out.mono ?_
            rintro e w14 ⟨rfl, b14⟩
            have BI := Lib.hid (BH.out.below b14)
            have GI := Lib.hid (GH.out.below b14)
            have YI := Lib.hid (YH.out.below b14)
            clear b14 L13 yl y0 y1 y2 y3 y4 gl g0 g1 g2 g3 g4 BH GH YH
            obtain ⟨yl, y0, y1, y2, y3, y4⟩ := YI.out.box.facts
            obtain ⟨gl, g0, g1, g2, g3, g4⟩ := GI.out.box.facts
            go_wp2
            go_ret
            exact ⟨rfl, BI.out.bel⟩
      · have BA := Lib.hid (BD.out.below (bA0 wd (.cells #[.int .i64 0, .slice none 0 0, .slice none 0 0, .int .i64 0, .int .i64 0] 41)))
        have GA := Lib.hid (GD.out.below (bA0 wd (.cells #[.int .i64 0, .slice none 0 0, .slice none 0 0, .int .i64 0, .int .i64 0] 41)))
        have XA : Hid (BoxO (wd.alloc (.cells #[.int .i64 0, .slice none 0 0, .slice none 0 0, .int .i64 0, .int .i64 0] 41)) wd.heap.size) := new_at _ _
        have NA : Hid (w.heap.size ≤ wd.heap.size ∧ b6 ≠ wd.heap.size) := ⟨BD.out.bel.size, fun e => by have := GD.out.box.facts.1; omega⟩
        go_simp
        refine hK.out _ _ ?_ (fun hHeld => ?_)
        · exact BA.out.cells
        clear hK K
        generalize wd.alloc (.cells #[.int .i64 0, .slice none 0 0, .slice none 0 0, .int .i64 0, .int .i64 0] 41) = wa at *
        generalize wd.heap.size = b7 at *
        refine wpAnyH_ready (rs := [3]) (by kernel_rfl) (by simp) ?_
        refine AllReadyH.cons rfl (fun K hK => ?_) AllReadyH.nil
        go_simp
        go_wp2_with (go_at_call 20; refine (lwm_hid _ _ _).mono ?_; rintro e w8 ⟨qb, hq, rfl, rfl⟩)
        refine hK.out _ _ ?_ (fun hHeld => ?_)
        · exact BA.out.cells
        clear hK K
        refine wpAnyH_ready (rs := [4]) (by kernel_rfl) (by simp) ?_
        refine AllReadyH.cons rfl (fun K hK => ?_) AllReadyH.nil
        go_simp
        go_wp2_with (go_at_call 19; refine (IM2.out qb hq _ BA.out).mono ?_; rintro e w7 ⟨s7, k7, l7, j7, ls7, rfl, q7t, q7o, q7e, b7'⟩)
        have B7 := Lib.hid (BA.out.below b7')
        have G7 := Lib.hid (GA.out.below b7')
        have XB := Lib.hid (XA.out.below b7')
        have E7 : Hid (bareC ls7 = L) := q7e
        have T7 : Hid (w7.ownsRow 0 2 1 (.slice s7 tn k7) tn zv ∧ OwC w7 0 (.slice l7 ln j7) ls7) := ⟨own_mono q7t (Nat.zero_le _), q7o.mono (Nat.zero_le _)⟩
        clear q7t q7o q7e b7' XA
        have XA := XB
        refine hK.out _ _ ?_ (fun hHeld => ?_)
        · exact B7.out.cells
        clear hK K
        refine wpAnyH_ready (rs := [6]) (by kernel_rfl) (by simp) ?_
        refine AllReadyH.cons rfl (fun K hK => ?_) AllReadyH.nil
        have OS : Only b7 w7 (((((w7.setCell ⟨b7, 0, none⟩ (.int .i64 x)).setCell ⟨b7, 1, none⟩ (.slice s7 tn k7)).setCell ⟨b7, 2, none⟩ (.slice l7 ln j7)).setCell ⟨b7, 3, none⟩ (.int .i64 st)).setCell ⟨b7, 4, none⟩ (.int .i64 0)) := set5_only w7 b7 _ _ _ _ _
        have BS := Lib.hid (B7.out.only OS XA.out NA.out.1)
        have GS := Lib.hid (G7.out.only OS XA.out NA.out.2)
        have YS : Hid (AN b7 s7 tn k7 l7 ln j7 x st 0 zv ls7 (((((w7.setCell ⟨b7, 0, none⟩ (.int .i64 x)).setCell ⟨b7, 1, none⟩ (.slice s7 tn k7)).setCell ⟨b7, 2, none⟩ (.slice l7 ln j7)).setCell ⟨b7, 3, none⟩ (.int .i64 st)).setCell ⟨b7, 4, none⟩ (.int .i64 0))) := ⟨⟨0, own_only T7.out.1 OS XA.out (by decide), own_only T7.out.2.row OS XA.out (by decide), (fun r hr => own_only (T7.out.2.each r hr) OS XA.out (by decide)), T7.out.2.diff⟩, set5_at XA.out⟩
        obtain ⟨zl, z0, z1, z2, z3, z4, f0, f1, f2, f3, f4⟩ := XA.out.facts
        clear OS
        go_simp
        refine hK.out _ _ ?_ (fun hHeld => ?_)
        · exact BS.out.cells
        clear hK K
        clear zl z0 z1 z2 z3 z4 f0 f1 f2 f3 f4 XA NA T7
        generalize (((((w7.setCell ⟨b7, 0, none⟩ (.int .i64 x)).setCell ⟨b7, 1, none⟩ (.slice s7 tn k7)).setCell ⟨b7, 2, none⟩ (.slice l7 ln j7)).setCell ⟨b7, 3, none⟩ (.int .i64 st)).setCell ⟨b7, 4, none⟩ (.int .i64 0)) = w9 at *
        refine wpAnyH_done (by kernel_rfl) ?_ _
        have BE := Lib.hid BS.out.drew
        have GE := Lib.hid GS.out.drew
        have YE := Lib.hid YS.out.drew
        go_wp2_with fail
        by_cases h1 : x = 1
        · have h1' : (x == 1) = true := by rw [h1]; rfl
          refine wp_region_held_drew (S := fun W => (b3 < W.heap.size ∧ W.cell? ⟨b3, 0, none⟩ = some (.int .i64 vars) ∧ W.cell? ⟨b3, 1, none⟩ = some (.slice vs n vk)) ∧ b6 < W.heap.size ∧ W.cell? ⟨b6, 0, none⟩ = some (.int .i64 x) ∧ W.cell? ⟨b6, 1, none⟩ = some (.slice s6 tn k6)) (by kernel_rfl) ?_ (fun hHeld => ?_)
          · exact ⟨BE.out.cells, GE.out.two⟩
          refine wpAnyH_take (i := 0) (oi := _) (v := ?_) rfl (by kernel_rfl) (by kernel_rfl) (by kernel_rfl) (fun _ _ _ h => h) (Or.inl ⟨by rfl, ?_⟩) (by assumption) ?_
          rotate_left
          · intro w hSw; (try dsimp only at hSw); go_simp; try with_reducible rfl
          try simp only [Act.put, List.setIfInBounds_toArray, List.set_cons_zero, List.set_cons_succ, List.getElem_toArray, List.getElem_cons_zero]
          refine wpAnyH_take (i := 1) (oi := _) (v := ?_) rfl (by kernel_rfl) (by kernel_rfl) (by kernel_rfl) (fun _ _ _ h => h) (Or.inl ⟨by rfl, ?_⟩) (by assumption) ?_
          rotate_left
          · intro w hSw; (try dsimp only at hSw); go_simp; try with_reducible rfl
          try simp only [Act.put, List.setIfInBounds_toArray, List.set_cons_zero, List.set_cons_succ, List.getElem_toArray, List.getElem_cons_succ, List.getElem_cons_zero]
          refine wpAnyH_take (i := 2) (oi := _) (v := ?_) rfl (by kernel_rfl) (by kernel_rfl) (by kernel_rfl) (fun _ _ _ h => h) (Or.inl ⟨by rfl, ?_⟩) (by assumption) ?_
          rotate_left
          · intro w hSw; (try dsimp only at hSw); go_simp; try with_reducible rfl
          try simp only [Act.put, List.setIfInBounds_toArray, List.set_cons_zero, List.set_cons_succ, List.getElem_toArray, List.getElem_cons_succ, List.getElem_cons_zero]
          refine wpAnyH_take (i := 3) (oi := _) (v := ?_) rfl (by kernel_rfl) (by kernel_rfl) (by kernel_rfl) (fun _ _ _ h => h) (Or.inl ⟨by rfl, ?_⟩) (by assumption) ?_
          rotate_left
          · intro w hSw; (try dsimp only at hSw); go_simp; try with_reducible rfl
          try simp only [Act.put, List.setIfInBounds_toArray, List.set_cons_zero, List.set_cons_succ, List.getElem_toArray, List.getElem_cons_succ, List.getElem_cons_zero]
          refine wpAnyH_take (i := 4) (oi := _) (v := ?_) rfl (by kernel_rfl) (by kernel_rfl) (by kernel_rfl) (fun _ _ _ h => h) (Or.inl ⟨by rfl, ?_⟩) (by assumption) ?_
          rotate_left
          · intro w hSw; (try dsimp only at hSw); go_simp; try with_reducible rfl
          try simp only [Act.put, List.setIfInBounds_toArray, List.set_cons_zero, List.set_cons_succ, List.getElem_toArray, List.getElem_cons_succ, List.getElem_cons_zero]
          refine wpAnyH_take (i := 5) (oi := _) (v := ?_) rfl (by kernel_rfl) (by kernel_rfl) (by kernel_rfl) (fun _ _ _ h => h) (Or.inl ⟨by rfl, ?_⟩) (by assumption) ?_
          rotate_left
          · intro w hSw; (try dsimp only at hSw); go_simp; try with_reducible rfl
          try simp only [Act.put, List.setIfInBounds_toArray, List.set_cons_zero, List.set_cons_succ, List.getElem_toArray, List.getElem_cons_succ, List.getElem_cons_zero]
          refine wpAnyH_take (i := 6) (oi := _) (v := ?_) rfl (by kernel_rfl) (by kernel_rfl) (by kernel_rfl) (fun _ _ _ h => h) (Or.inl ⟨by rfl, ?_⟩) (by assumption) ?_
          rotate_left
          · intro w hSw; (try dsimp only at hSw); go_simp; try with_reducible rfl
          try simp only [Act.put, List.setIfInBounds_toArray, List.set_cons_zero, List.set_cons_succ, List.getElem_toArray, List.getElem_cons_succ, List.getElem_cons_zero]
          refine wpAnyH_ready (rs := [7]) (by kernel_rfl) (by simp) ?_
          refine AllReadyH.cons rfl (fun K hK => ?_) AllReadyH.nil
          go_simp
          go_wp2_with (go_at_call 12; refine (LC.out _ _ _ _ _ _ _ GE.out).mono ?_; rintro e w10 ⟨s10, k10, rfl, q10, b10⟩)
          have BF := Lib.hid (BE.out.below b10)
          have GF := Lib.hid (GE.out.below b10)
          have YF := Lib.hid (YE.out.below b10)
          have QF := Lib.hid q10
          clear q10 b10
          refine hK.out _ _ ?_ (fun hHeld => ?_)
          · exact ⟨BF.out.cells, GF.out.two⟩
          clear hK K
          refine wpAnyH_ready (rs := [8]) (by kernel_rfl) (by simp) ?_
          refine AllReadyH.cons rfl (fun K hK => ?_) AllReadyH.nil
          go_simp
          go_wp2_with (go_at_call 21; refine (CT.out h1 _ _ _ _ BF.out QF.out).mono ?_; rintro e w11 ⟨rfl, b11⟩)
          have BG := Lib.hid (BF.out.below b11)
          have GG := Lib.hid (GF.out.below b11)
          have YG := Lib.hid (YF.out.below b11)
          clear b11
          refine hK.out _ _ ?_ (fun hHeld => ?_)
          · exact ⟨BG.out.cells, GG.out.two⟩
          clear hK K
          refine wpAnyH_take (i := 9) (oi := _) (v := ?_) rfl (by kernel_rfl) (by kernel_rfl) (by kernel_rfl) (fun _ _ _ h => h) (Or.inl ⟨by rfl, ?_⟩) (by assumption) ?_
          rotate_left
          · intro w hSw; (try dsimp only at hSw); go_simp; try with_reducible rfl
          try simp only [Act.put, List.setIfInBounds_toArray, List.set_cons_zero, List.set_cons_succ, List.getElem_toArray, List.getElem_cons_succ, List.getElem_cons_zero]
          refine wpAnyH_take (i := 10) (oi := _) (v := ?_) rfl (by kernel_rfl) (by kernel_rfl) (by kernel_rfl) (fun _ _ _ h => h) (Or.inl ⟨by rfl, ?_⟩) (by assumption) ?_
          rotate_left
          · intro w hSw; (try dsimp only at hSw); go_simp; try with_reducible rfl
          try simp only [Act.put, List.setIfInBounds_toArray, List.set_cons_zero, List.set_cons_succ, List.getElem_toArray, List.getElem_cons_succ, List.getElem_cons_zero]
          refine wpAnyH_done (by kernel_rfl) ?_ _
          obtain ⟨yl, y0, y1, y2, y3, y4⟩ := YG.out.box.facts
          obtain ⟨gl, g0, g1, g2, g3, g4⟩ := GG.out.box.facts
          have L12 := Lib.hid (LS.out _ _ _ _ _ _ _ _ _ _ _ _ _ YG.out GG.out)
          go_wp2_with fail
          refine L12.out.mono ?_
          rintro e w13 ⟨rfl, b13⟩
          have BH := Lib.hid (BG.out.below b13)
          have GH := Lib.hid (GG.out.below b13)
          have YH := Lib.hid (YG.out.below b13)
          clear b13 L12 yl y0 y1 y2 y3 y4 gl g0 g1 g2 g3 g4 BG GG YG
          obtain ⟨yl, y0, y1, y2, y3, y4⟩ := YH.out.box.facts
          obtain ⟨gl, g0, g1, g2, g3, g4⟩ := GH.out.box.facts
          have L13 := Lib.hid (LL.out _ _ _ _ _ _ _ _ _ _ _ _ _ E7.out E6.out YH.out GH.out)
          go_wp2_with fail
          refine L13.out.mono ?_
          rintro e w14 ⟨rfl, b14⟩
          have BI := Lib.hid (BH.out.below b14)
          have GI := Lib.hid (GH.out.below b14)
          have YI := Lib.hid (YH.out.below b14)
          clear b14 L13 yl y0 y1 y2 y3 y4 gl g0 g1 g2 g3 g4 BH GH YH
          obtain ⟨yl, y0, y1, y2, y3, y4⟩ := YI.out.box.facts
          obtain ⟨gl, g0, g1, g2, g3, g4⟩ := GI.out.box.facts
          go_wp2
          go_ret
          exact ⟨rfl, BI.out.bel⟩
        · have h1' : (x == 1) = false := beq_eq_false_iff_ne.2 h1
          refine wp_region_held_drew (S := fun W => (b3 < W.heap.size ∧ W.cell? ⟨b3, 0, none⟩ = some (.int .i64 vars) ∧ W.cell? ⟨b3, 1, none⟩ = some (.slice vs n vk)) ∧ b6 < W.heap.size ∧ W.cell? ⟨b6, 0, none⟩ = some (.int .i64 x) ∧ W.cell? ⟨b6, 1, none⟩ = some (.slice s6 tn k6)) (by kernel_rfl) ?_ (fun hHeld => ?_)
          · exact ⟨BE.out.cells, GE.out.two⟩
          refine wpAnyH_take (i := 0) (oi := _) (v := ?_) rfl (by kernel_rfl) (by kernel_rfl) (by kernel_rfl) (fun _ _ _ h => h) (Or.inl ⟨by rfl, ?_⟩) (by assumption) ?_
          rotate_left
          · intro w hSw; (try dsimp only at hSw); go_simp; try with_reducible rfl
          try simp only [Act.put, List.setIfInBounds_toArray, List.set_cons_zero, List.set_cons_succ, List.getElem_toArray, List.getElem_cons_zero]
          refine wpAnyH_take (i := 1) (oi := _) (v := ?_) rfl (by kernel_rfl) (by kernel_rfl) (by kernel_rfl) (fun _ _ _ h => h) (Or.inl ⟨by rfl, ?_⟩) (by assumption) ?_
          rotate_left
          · intro w hSw; (try dsimp only at hSw); go_simp; try with_reducible rfl
          try simp only [Act.put, List.setIfInBounds_toArray, List.set_cons_zero, List.set_cons_succ, List.getElem_toArray, List.getElem_cons_succ, List.getElem_cons_zero]
          refine wpAnyH_take (i := 2) (oi := _) (v := ?_) rfl (by kernel_rfl) (by kernel_rfl) (by kernel_rfl) (fun _ _ _ h => h) (Or.inl ⟨by rfl, ?_⟩) (by assumption) ?_
          rotate_left
          · intro w hSw; (try dsimp only at hSw); go_simp; try with_reducible rfl
          try simp only [Act.put, List.setIfInBounds_toArray, List.set_cons_zero, List.set_cons_succ, List.getElem_toArray, List.getElem_cons_succ, List.getElem_cons_zero]
          refine wpAnyH_take (i := 3) (oi := _) (v := ?_) rfl (by kernel_rfl) (by kernel_rfl) (by kernel_rfl) (fun _ _ _ h => h) (Or.inl ⟨by rfl, ?_⟩) (by assumption) ?_
          rotate_left
          · intro w hSw; (try dsimp only at hSw); go_simp; try with_reducible rfl
          try simp only [Act.put, List.setIfInBounds_toArray, List.set_cons_zero, List.set_cons_succ, List.getElem_toArray, List.getElem_cons_succ, List.getElem_cons_zero]
          refine wpAnyH_take (i := 4) (oi := _) (v := undef) rfl (by kernel_rfl) (by kernel_rfl) (by kernel_rfl) (fun _ _ _ h => h) (Or.inr ⟨by rfl, rfl⟩) (by assumption) ?_
          try simp only [Act.put, List.setIfInBounds_toArray, List.set_cons_zero, List.set_cons_succ, List.getElem_toArray, List.getElem_cons_succ, List.getElem_cons_zero]
          refine wpAnyH_take (i := 5) (oi := _) (v := undef) rfl (by kernel_rfl) (by kernel_rfl) (by kernel_rfl) (fun _ _ _ h => h) (Or.inr ⟨by rfl, rfl⟩) (by assumption) ?_
          try simp only [Act.put, List.setIfInBounds_toArray, List.set_cons_zero, List.set_cons_succ, List.getElem_toArray, List.getElem_cons_succ, List.getElem_cons_zero]
          refine wpAnyH_take (i := 6) (oi := _) (v := undef) rfl (by kernel_rfl) (by kernel_rfl) (by kernel_rfl) (fun _ _ _ h => h) (Or.inr ⟨by rfl, rfl⟩) (by assumption) ?_
          try simp only [Act.put, List.setIfInBounds_toArray, List.set_cons_zero, List.set_cons_succ, List.getElem_toArray, List.getElem_cons_succ, List.getElem_cons_zero]
          refine wpAnyH_take (i := 7) (oi := _) (v := undef) rfl (by kernel_rfl) (by kernel_rfl) (by kernel_rfl) (fun _ _ _ h => h) (Or.inr ⟨by rfl, rfl⟩) (by assumption) ?_
          try simp only [Act.put, List.setIfInBounds_toArray, List.set_cons_zero, List.set_cons_succ, List.getElem_toArray, List.getElem_cons_succ, List.getElem_cons_zero]
          refine wpAnyH_take (i := 8) (oi := _) (v := undef) rfl (by kernel_rfl) (by kernel_rfl) (by kernel_rfl) (fun _ _ _ h => h) (Or.inr ⟨by rfl, rfl⟩) (by assumption) ?_
          try simp only [Act.put, List.setIfInBounds_toArray, List.set_cons_zero, List.set_cons_succ, List.getElem_toArray, List.getElem_cons_succ, List.getElem_cons_zero]
          refine wpAnyH_take (i := 9) (oi := _) (v := undef) rfl (by kernel_rfl) (by kernel_rfl) (by kernel_rfl) (fun _ _ _ h => h) (Or.inr ⟨by rfl, rfl⟩) (by assumption) ?_
          try simp only [Act.put, List.setIfInBounds_toArray, List.set_cons_zero, List.set_cons_succ, List.getElem_toArray, List.getElem_cons_succ, List.getElem_cons_zero]
          refine wpAnyH_take (i := 10) (oi := _) (v := ?_) rfl (by kernel_rfl) (by kernel_rfl) (by kernel_rfl) (fun _ _ _ h => h) (Or.inl ⟨by rfl, ?_⟩) (by assumption) ?_
          rotate_left
          · intro w hSw; (try dsimp only at hSw); go_simp; try with_reducible rfl
          try simp only [Act.put, List.setIfInBounds_toArray, List.set_cons_zero, List.set_cons_succ, List.getElem_toArray, List.getElem_cons_succ, List.getElem_cons_zero]
          refine wpAnyH_done (by kernel_rfl) ?_ _
          have BG := BE
          have GG := GE
          have YG := YE
          obtain ⟨yl, y0, y1, y2, y3, y4⟩ := YG.out.box.facts
          obtain ⟨gl, g0, g1, g2, g3, g4⟩ := GG.out.box.facts
          have L12 := Lib.hid (LS.out _ _ _ _ _ _ _ _ _ _ _ _ _ YG.out GG.out)
          go_wp2_with fail
          refine L12.out.mono ?_
          rintro e w13 ⟨rfl, b13⟩
          have BH := Lib.hid (BG.out.below b13)
          have GH := Lib.hid (GG.out.below b13)
          have YH := Lib.hid (YG.out.below b13)
          clear b13 L12 yl y0 y1 y2 y3 y4 gl g0 g1 g2 g3 g4 BG GG YG
          obtain ⟨yl, y0, y1, y2, y3, y4⟩ := YH.out.box.facts
          obtain ⟨gl, g0, g1, g2, g3, g4⟩ := GH.out.box.facts
          have L13 := Lib.hid (LL.out _ _ _ _ _ _ _ _ _ _ _ _ _ E7.out E6.out YH.out GH.out)
          go_wp2_with fail
          refine L13.out.mono ?_
          rintro e w14 ⟨rfl, b14⟩
          have BI := Lib.hid (BH.out.below b14)
          have GI := Lib.hid (GH.out.below b14)
          have YI := Lib.hid (YH.out.below b14)
          clear b14 L13 yl y0 y1 y2 y3 y4 gl g0 g1 g2 g3 g4 BH GH YH
          obtain ⟨yl, y0, y1, y2, y3, y4⟩ := YI.out.box.facts
          obtain ⟨gl, g0, g1, g2, g3, g4⟩ := GI.out.box.facts
          go_wp2
          go_ret
          exact ⟨rfl, BI.out.bel⟩
  · have hc' : (c == 0) = false := beq_eq_false_iff_ne.2 hc
    --@e
    go_wp2
    go_ret
    exact ⟨rfl, B6.out.bel⟩

end Go.Proofs.YtoobcodlgajieaaDoor
