/-
  AN ANSWER OF THE SOLVER, held against another one, marked, and held by its marks: eqSolveOut, markSolveOut, heldSolveOut.
-/
import Derived.Test.YtdmnnclbcljdmaaWl
import Derived.Test.YtdmnnclbcljdmaaMg
namespace Go.Proofs.Ytdmnnclbcljdmaa
open Go.RowKit
set_option linter.unusedVariables false

abbrev SA (x : Int) (vt vl : Value) (st c : Int) : Value := .agg #[.int .i64 x, vt, vl, .int .i64 st, .int .i64 c]
abbrev SO (x : Int) (vt vl : Value) (st c : Int) : Obj := .cells #[.int .i64 x, vt, vl, .int .i64 st, .int .i64 c] 30
/-- An answer in a block of its own. -/
def BoxS (w : World) (b : Nat) (x : Int) (vt vl : Value) (st c : Int) : Prop := w.heap[b]? = some (.cells #[.int .i64 x, vt, vl, .int .i64 st, .int .i64 c] 30)
theorem BoxS.facts {w : World} {b : Nat} {x st c : Int} {vt vl : Value} (h : BoxS w b x vt vl st c) : b < w.heap.size ∧ w.cell? ⟨b, 0, none⟩ = some (.int .i64 x) ∧ w.cell? ⟨b, 1, none⟩ = some vt ∧ w.cell? ⟨b, 2, none⟩ = some vl ∧ w.cell? ⟨b, 3, none⟩ = some (.int .i64 st) ∧ w.cell? ⟨b, 4, none⟩ = some (.int .i64 c) := by
  obtain ⟨e0, e1, e2, e3, e4⟩ := cells5 h
  exact ⟨(Array.getElem?_eq_some_iff.1 h).1, e0, e1, e2, e3, e4⟩
theorem BoxS.below {w w' : World} {b : Nat} {x st c : Int} {vt vl : Value} (h : BoxS w b x vt vl st c) (hb : Below w.heap.size w w') : BoxS w' b x vt vl st c := (hb.block b h.facts.1).trans h

set_option maxRecDepth 100000 in
set_option maxHeartbeats 2000000 in
/-- eqSolveOut. -/
theorem eqSO_any (x st c : Int) (T : List Int) (s1 s2 : Option Addr) (k1 k2 : Nat) (l1 l2 : Option Addr) (j1 j2 : Nat) (ls ls' : List LCl) (W : World) (hT : T.length ≤ maxLen) (hl : ls.length ≤ 1048576) (he : bareC ls = bareC ls') (i1 : Ints W s1 T) (i2 : Ints W s2 T) (c1 : Cls W l1 ls) (c2 : Cls W l2 ls') :
    Calls Try.prog 16 #[SA x (.slice s1 T.length k1) (.slice l1 ls.length j1) st c, SA x (.slice s2 T.length k2) (.slice l2 ls.length j2) st c] W fun e w' => e = .returned (.bool true) ∧ Below W.heap.size W w' := by
  have b1 := bA0 W (SO x (.slice s1 T.length k1) (.slice l1 ls.length j1) st c)
  have b2 := bA b1 (SO x (.slice s2 T.length k2) (.slice l2 ls.length j2) st c)
  have hs : (W.alloc (SO x (.slice s1 T.length k1) (.slice l1 ls.length j1) st c)).heap.size = W.heap.size + 1 := by simp
  have X1 : BoxS ((W.alloc (SO x (.slice s1 T.length k1) (.slice l1 ls.length j1) st c)).alloc (SO x (.slice s2 T.length k2) (.slice l2 ls.length j2) st c)) W.heap.size x (.slice s1 T.length k1) (.slice l1 ls.length j1) st c := BoxS.below (w := W.alloc (SO x (.slice s1 T.length k1) (.slice l1 ls.length j1) st c)) (new_at _ _) (bA0 _ _)
  have X2 : BoxS ((W.alloc (SO x (.slice s1 T.length k1) (.slice l1 ls.length j1) st c)).alloc (SO x (.slice s2 T.length k2) (.slice l2 ls.length j2) st c)) (W.heap.size + 1) x (.slice s2 T.length k2) (.slice l2 ls.length j2) st c := by
    have := new_at (W.alloc (SO x (.slice s1 T.length k1) (.slice l1 ls.length j1) st c)) (SO x (.slice s2 T.length k2) (.slice l2 ls.length j2) st c)
    rw [hs] at this
    exact this
  have C1 := Lib.hid (eq_any s1 s2 k1 k2 T ((W.alloc (SO x (.slice s1 T.length k1) (.slice l1 ls.length j1) st c)).alloc (SO x (.slice s2 T.length k2) (.slice l2 ls.length j2) st c)) hT (i1.below b2) (i2.below b2))
  have C2 : Hid (∀ w', Below W.heap.size W w' → Calls Try.prog 38 #[.slice l1 ls.length j1, .slice l2 ls.length j2] w' fun e w'' => e = .returned (.bool true) ∧ Below w'.heap.size w' w'') := fun w' hb => by
    have := eqL_any l1 l2 j1 j2 ls ls' w' hl he (c1.below hb) (c2.below hb)
    rwa [← bareC_len he] at this
  obtain ⟨y1, p0, p1, p2, p3, p4⟩ := X1.facts
  obtain ⟨y2, q0, q1, q2, q3, q4⟩ := X2.facts
  have B2 := Lib.hid b2
  have HX1 := Lib.hid X1
  have HX2 := Lib.hid X2
  clear b1 b2 X1 X2 i1 i2 c1 c2
  generalize T.length = tn at *
  generalize ls.length = ln at *
  generalize hW2 : (W.alloc (SO x (.slice s1 tn k1) (.slice l1 ln j1) st c)).alloc (SO x (.slice s2 tn k2) (.slice l2 ln j2) st c) = W2 at *
  have HW2 := Lib.hid hW2
  clear hW2
  go_enter Try.func16, Try.ntmps16
  go_wp2_with fail
  have e2 := HW2.out
  dsimp only [SO] at e2
  rw [e2]
  clear e2
  refine C1.out.mono ?_
  rintro e w1 ⟨rfl, b1⟩
  have D1 := Lib.hid (bT B2.out b1)
  have X1 := Lib.hid (HX1.out.below b1)
  have X2 := Lib.hid (HX2.out.below b1)
  clear b1 y1 p0 p1 p2 p3 p4 y2 q0 q1 q2 q3 q4
  obtain ⟨y1, p0, p1, p2, p3, p4⟩ := X1.out.facts
  obtain ⟨y2, q0, q1, q2, q3, q4⟩ := X2.out.facts
  go_wp2_with fail
  refine (C2.out _ D1.out).mono ?_
  rintro e w2 ⟨rfl, b2⟩
  have D2 := Lib.hid (bT D1.out b2)
  have X1' := Lib.hid (X1.out.below b2)
  have X2' := Lib.hid (X2.out.below b2)
  clear b2 y1 p0 p1 p2 p3 p4 y2 q0 q1 q2 q3 q4
  obtain ⟨y1, p0, p1, p2, p3, p4⟩ := X1'.out.facts
  obtain ⟨y2, q0, q1, q2, q3, q4⟩ := X2'.out.facts
  go_wp2
  go_ret
  exact ⟨rfl, D2.out⟩

set_option maxRecDepth 100000 in
set_option maxHeartbeats 2000000 in
/-- markSolveOut. -/
theorem mkSO_any (B : Nat) (x st c : Int) (T : List Int) (vt vl : Value) (ls : List LCl) (W : World) (hT : T.length ≤ 900) (hl : ls.length ≤ 1000) (hr : ∀ r ∈ ls, r.2.length ≤ 1000) (ht : totC ls ≤ 500000000) (hB : B ≤ W.heap.size) (o : W.ownsRow B 2 1 vt T.length (valsZ T)) (oc : OwC W B vl ls) (ap : ∀ r ∈ ls, ∀ j, r.1.ownBlock = some j → vt.ownBlock ≠ some j) :
    Calls Try.prog 19 #[SA x vt vl st c, .int .i64 1] W fun e w' => e = .returned (.int .i64 (1 + (T.length : Int) + (totC ls : Int))) ∧ w'.ownsRow B 2 1 vt T.length (valsZ (marks 1 T.length)) ∧ OwC w' B vl (mkC (1 + (T.length : Int)) ls) ∧ Below B W w' ∧ K30 W w' := by
  obtain ⟨ts, tk, rfl⟩ := own_v o
  obtain ⟨lv, lk, rfl⟩ := oc.v
  have b1 := bA0 W (SO x (.slice ts T.length tk) (.slice lv ls.length lk) st c)
  have X1 : BoxS (W.alloc (SO x (.slice ts T.length tk) (.slice lv ls.length lk) st c)) W.heap.size x (.slice ts T.length tk) (.slice lv ls.length lk) st c := new_at _ _
  have C1 := Lib.hid (mark_row B (.slice ts T.length tk) T 1 (by omega) (by omega) (by omega) (W.alloc (SO x (.slice ts T.length tk) (.slice lv ls.length lk) st c)) (own_below o b1))
  have C2 : Hid (∀ w', (W.alloc (SO x (.slice ts T.length tk) (.slice lv ls.length lk) st c)).grownBy w' (Value.slice ts T.length tk).ownBlock → w'.ownsRow B 2 1 (.slice ts T.length tk) T.length (valsZ (marks 1 T.length)) → BoxS w' W.heap.size x (.slice ts T.length tk) (.slice lv ls.length lk) st c ∧ (K30 W w' ∧ Below B W w') ∧ Calls Try.prog 39 #[.slice lv ls.length lk, .int .i64 (1 + (T.length : Int))] w' fun e w'' => e = .returned (.int .i64 (1 + (T.length : Int) + (totC ls : Int))) ∧ OwC w'' B (.slice lv ls.length lk) (mkC (1 + (T.length : Int)) ls) ∧ Below B w' w'' ∧ K30 w' w'' ∧ w''.ownsRow B 2 1 (.slice ts T.length tk) T.length (valsZ (marks 1 T.length))) := fun w' hg ho => by
    have o1 := own_below o b1
    have oc1 := oc.below b1
    have lr : ∀ r ∈ ls, w'.ownsRow B 2 1 r.1 r.2.length (valsZ r.2) := fun r hr => (oc1.each r hr).kept hg (by
      rcases hj : r.1.ownBlock with _ | j
      · exact .inl rfl
      · exact .inr (fun e => ap r hr j hj e.symm))
    have oc' : OwC w' B (.slice lv ls.length lk) ls := ⟨oc1.row.kept hg (own_diff oc1.row o1 (by decide)), lr, oc1.diff⟩
    have k1 : K30 W w' := ((K30.refl W).below b1).grown o1 (by decide) hg
    have kx : K30 (W.alloc (SO x (.slice ts T.length tk) (.slice lv ls.length lk) st c)) w' := (K30.refl _).grown o1 (by decide) hg
    refine ⟨kx _ _ X1, ⟨k1, (b1.mono hB).grown hg (by have := b1.size; omega) (fun j hj => (o1.lt j hj).1)⟩, ?_⟩
    exact mkL_any B _ ls (1 + (T.length : Int)) w' (.slice ts T.length tk) T.length (valsZ (marks 1 T.length)) ho ap (by omega) (fun r hr' => by have := hr r hr'; omega) ht (by omega) (by omega) (by have := hg.size; have := b1.size; omega) oc'
  obtain ⟨y1, p0, p1, p2, p3, p4⟩ := X1.facts
  clear b1 X1 o oc ap hr
  generalize T.length = tn at *
  generalize ls.length = ln at *
  go_enter Try.func19, Try.ntmps19
  go_wp2_with fail
  refine C1.out.mono ?_
  rintro e w1 ⟨rfl, o1, g1⟩
  obtain ⟨X, K1, C3⟩ := C2.out w1 g1 o1
  have CC := Lib.hid C3
  have KK := Lib.hid K1
  clear C2 C1 C3 o1 g1 y1 p0 p1 p2 p3 p4 K1
  obtain ⟨y1, p0, p1, p2, p3, p4⟩ := X.facts
  clear X
  go_wp2_with fail
  refine CC.out.mono ?_
  rintro e w2 ⟨rfl, oc2, b2, k2, o2⟩
  have P := Lib.hid (show w2.ownsRow B 2 1 (.slice ts tn tk) tn (valsZ (marks 1 tn)) ∧ OwC w2 B (.slice lv ln lk) (mkC (1 + (tn : Int)) ls) ∧ Below B W w2 ∧ K30 W w2 from ⟨o2, oc2, KK.out.2.trans b2, KK.out.1.trans k2⟩)
  clear oc2 b2 k2 o2 CC KK
  go_wp2
  go_ret
  exact ⟨rfl, P.out⟩

set_option maxRecDepth 100000 in
set_option maxHeartbeats 2000000 in
/-- heldSolveOut. -/
theorem hdSO_any (B : Nat) (x st c : Int) (tn : Nat) (vt vl : Value) (ls : List LCl) (W : World) (hT : tn ≤ 900) (hl : ls.length ≤ 1000) (hr : ∀ r ∈ ls, r.2.length ≤ 1000) (ht : totC ls ≤ 500000000) (o : W.ownsRow B 2 1 vt tn (valsZ (marks 1 tn))) (oc : OwC W B vl (mkC (1 + (tn : Int)) ls)) :
    Calls Try.prog 20 #[SA x vt vl st c, .int .i64 1] W fun e w' => e = .returned (.int .i64 (1 + (tn : Int) + (totC ls : Int))) ∧ Below W.heap.size W w' := by
  obtain ⟨ts, tk, rfl⟩ := own_v o
  obtain ⟨lv, lk, e9⟩ := oc.v
  rw [mkC_len] at e9
  subst e9
  have b1 := bA0 W (SO x (.slice ts tn tk) (.slice lv ls.length lk) st c)
  have X1 : BoxS (W.alloc (SO x (.slice ts tn tk) (.slice lv ls.length lk) st c)) W.heap.size x (.slice ts tn tk) (.slice lv ls.length lk) st c := new_at _ _
  have C1 := Lib.hid (held_row B (.slice ts tn tk) tn 1 (by omega) (by omega) (by omega) (W.alloc (SO x (.slice ts tn tk) (.slice lv ls.length lk) st c)) (own_below o b1))
  have C2 := Lib.hid (hdL_any B (.slice lv ls.length lk) ls (1 + (tn : Int)) (W.alloc (SO x (.slice ts tn tk) (.slice lv ls.length lk) st c)) (by omega) (fun r hr' => by have := hr r hr'; omega) ht (by omega) (by omega) (oc.below b1))
  have B1 := Lib.hid b1
  obtain ⟨y1, p0, p1, p2, p3, p4⟩ := X1.facts
  have h1 : ¬ (1 + (tn : Int)) < 0 := by omega
  have h2 : ¬ (1 + (tn : Int) + (totC ls : Int)) < 0 := by omega
  clear b1 X1 o oc hr
  generalize 1 + (tn : Int) + (totC ls : Int) = kk at *
  generalize 1 + (tn : Int) = kj at *
  generalize ls.length = ln at *
  go_enter Try.func20, Try.ntmps20
  go_wp2_with fail
  refine C1.out.mono ?_
  rintro e w1 ⟨rfl, rfl⟩
  go_wp2_with fail
  refine C2.out.mono ?_
  rintro e w2 ⟨rfl, rfl⟩
  go_wp2
  go_ret
  exact ⟨rfl, B1.out⟩
end Go.Proofs.Ytdmnnclbcljdmaa
