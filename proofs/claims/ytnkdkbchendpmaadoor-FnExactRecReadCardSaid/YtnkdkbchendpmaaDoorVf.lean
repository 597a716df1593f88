/-
  THE LAW FnExactRecRead: the walk.
-/
import Derived.Test.YtnkdkbchendpmaaDoorVe
namespace Go.Proofs.YtnkdkbchendpmaaDoor
open Go.RowKit
set_option linter.unusedVariables false

theorem QV.below {w w' : World} {b : Nat} {x0 x1 x2 x3 : Value} (h : QV w b x0 x1 x2 x3) (hb : Below w.heap.size w w') : QV w' b x0 x1 x2 x3 := (hb.block b (Array.getElem?_eq_some_iff.1 h).1).trans h
theorem QV.belowAt {B : Nat} {w w' : World} {b : Nat} {x0 x1 x2 x3 : Value} (h : QV w b x0 x1 x2 x3) (hb : Below B w w') (hB : b < B) : QV w' b x0 x1 x2 x3 := (hb.block b hB).trans h
theorem QV.new (w : World) (x0 x1 x2 x3 : Value) : QV (w.alloc (.cells #[x0, x1, x2, x3] 36)) w.heap.size x0 x1 x2 x3 := by
  show (w.heap.push _)[w.heap.size]? = _
  simp
theorem QV.lt {w : World} {b : Nat} {x0 x1 x2 x3 : Value} (h : QV w b x0 x1 x2 x3) : b < w.heap.size := (Array.getElem?_eq_some_iff.1 h).1
theorem IntsBelowAt {B : Nat} {w w' : World} {sl : Option Addr} {zs : List Int} (h : Ints w sl zs) (hb : Below B w w') (hs : ∀ a, sl = some a → a.block < B) : Ints w' sl zs := by
  rcases h with h | ⟨c, o, rfl, h⟩
  · exact .inl h
  · have := hs _ rfl
    refine .inr ⟨c, o, rfl, Nat.lt_of_lt_of_le h.1 hb.size, fun i hi => ?_⟩
    rw [← h.2 i hi]
    exact World.cell?_of_block (hb.block c this)

theorem IntsGrown {w w' : World} {row : Option Nat} {sl : Option Addr} {zs : List Int} (h : Ints w sl zs) (hg : w.grownBy w' row) (hs : ∀ a, sl = some a → row ≠ some a.block) : Ints w' sl zs := by
  rcases h with h | ⟨c, o, rfl, h⟩
  · exact .inl h
  · have := hs _ rfl
    refine .inr ⟨c, o, rfl, Nat.lt_of_lt_of_le h.1 hg.size, fun i hi => ?_⟩
    rw [← h.2 i hi]
    exact World.cell?_of_block (hg.block c h.1 (fun e => this e.symm))
theorem QV.grown {w w' : World} {row : Option Nat} {b : Nat} {x0 x1 x2 x3 : Value} (h : QV w b x0 x1 x2 x3) (hg : w.grownBy w' row) (hb : row ≠ some b) : QV w' b x0 x1 x2 x3 := (hg.block b h.lt (fun e => hb e.symm)).trans h

set_option maxRecDepth 100000 in
set_option maxHeartbeats 2000000 in
theorem law8 (s : ByteArray) (w : World) (ht : U8 w) :
    Calls Tryd.prog 8 #[.string s] w fun e w' => e = .returned (.bool true) ∧ Below w.heap.size w w' := by
  by_cases h : 1048576 < s.size
  · have h' : (1048576 : Int) < (s.size : Int) := by omega
    clear ht
    go_enter Tryd.func8, Tryd.ntmps8
    go_wp2
    go_ret
    exact ⟨rfl, Below.refl _ _⟩
  · have h' : ¬ (1048576 : Int) < (s.size : Int) := by omega
    have SS := Lib.hid (fun w => srd_any s w)
    have IS : Hid (∀ w1, Below w.heap.size w w1 → Calls Tryd.prog 16 #[.string s] w1 fun e w' => OutP s.data.toList w1 e w') := fun w1 hb => (ird_any s w1 (ht.below hb)).mono fun e w' h => h.out
    generalize s.data.toList = t at *
    clear ht
    go_enter Tryd.func8, Tryd.ntmps8
    go_wp2_with fail
    refine (SS.out _).mono ?_
    rintro e w1 ⟨k, zs, v, u, c, T1, rfl, o1, b1⟩
    obtain ⟨sl, cap, rfl, i1⟩ := own_ints o1
    have LN := T1.len
    have TT := Lib.hid T1
    have I1 := Lib.hid i1
    have B1 := Lib.hid b1
    have hs0 := b1.size
    have O1 := Lib.hid (fun a (e : sl = some a) => (o1.lt a.block (by rw [e]; rfl)).2)
    have Q1 := Lib.hid (QV.new w1 (.int .i64 k) (.slice sl zs.length cap) (.int .i64 u) (.int .i64 c))
    clear T1 i1 b1 o1 SS
    generalize hN : zs.length = n at *
    have HN := Lib.hid hN
    clear hN
    go_wp2_with fail
    refine (IS.out _ (bA B1.out _)).mono ?_
    rintro e w2 ⟨k', zs', v', u', c', T2, rfl, o2, b2⟩
    obtain ⟨rfl, rfl, rfl, rfl⟩ := TT.out.uniq T2
    rw [HN.out] at o2
    obtain ⟨sl', cap', rfl⟩ := own_v o2
    have i2 := (own_ints (zs := zs) (by rw [HN.out]; exact o2))
    have I2 : Hid (Ints w2 sl' zs) := by
      obtain ⟨x, y, e, hh⟩ := i2
      cases e; exact hh
    have J1 := Lib.hid ((I1.out.below (bA0 _ _)).below b2)
    have Q2 := Lib.hid (Q1.out.below b2)
    have B2 := Lib.hid (bT (bA B1.out (.cells #[.int .i64 k, .slice sl n cap, .int .i64 u, .int .i64 c] 36)) b2)
    have O2 := Lib.hid o2
    have RL : Hid (∀ j, (Value.slice sl' n cap').ownBlock = some j → w1.heap.size < j ∧ j < w2.heap.size) := fun j hj => by
      have := o2.lt j hj
      simp at this; omega
    have G2 := Lib.hid (QV.new w2 (.int .i64 k) (.slice sl' n cap') (.int .i64 u) (.int .i64 c))
    have hs1 : w1.heap.size < w2.heap.size := Q2.out.lt
    obtain ⟨q0, q1, q2, q3⟩ := Q2.out.cells
    clear o2 i2 b2 T2 Q1 I1 B1
    have E3 := Lib.hid (eqO_any k u c sl' sl cap' cap zs (w2.alloc (.cells #[.int .i64 k, .slice sl' n cap', .int .i64 u, .int .i64 c] 36)) (by rw [HN.out]; unfold maxLen; omega) (I2.out.below (bA0 _ _)) (J1.out.below (bA0 _ _)))
    rw [HN.out] at E3
    go_wp2_with fail
    refine E3.out.mono ?_
    rintro e w3 ⟨rfl, b3⟩
    have P3 := Lib.hid ((G2.out.below b3))
    have Q3 := Lib.hid ((Q2.out.alloc _).below b3)
    have J3 := Lib.hid ((J1.out.below (bA0 _ _)).below b3)
    have B3 := Lib.hid (bT (bA B2.out _) b3)
    have O3 := Lib.hid (own_below (O2.out.alloc _) b3)
    have hs3 : w2.heap.size < w3.heap.size := P3.out.lt
    obtain ⟨p0, p1, p2, p3⟩ := P3.out.cells
    clear b3 G2 Q2 J1 B2 O2 I2 E3 q0 q1 q2 q3
    have M4 := Lib.hid (mkO_any _ k u c _ zs w3 (by rw [HN.out]; omega) (by rw [HN.out]; exact O3.out))
    rw [HN.out] at M4
    go_wp2_with fail
    refine M4.out.mono ?_
    rintro e w4 ⟨rfl, o4, g4⟩
    have P4 := Lib.hid (P3.out.grown g4 (fun e => by have := RL.out _ e; omega))
    have Q4 := Lib.hid (Q3.out.grown g4 (fun e => by have := RL.out _ e; omega))
    have J4 := Lib.hid (IntsGrown J3.out g4 (fun a ha e => by have := RL.out _ e; have := O1.out a ha; omega))
    have B4 := Lib.hid (B3.out.grown g4 (by omega) (fun j hj => by have := RL.out j hj; omega))
    have O4 := Lib.hid o4
    have hs4 : w2.heap.size < w4.heap.size := P4.out.lt
    clear o4 g4 P3 Q3 J3 B3 O3 M4 p0 p1 p2 p3 hs3
    obtain ⟨p0, p1, p2, p3⟩ := P4.out.cells
    have H5 := Lib.hid (fun W (hb : Below w4.heap.size w4 W) => hdO_any _ k u c _ n W (by omega) (own_below O4.out hb))
    go_wp2_with fail
    refine (H5.out _ (Below.refl _ _)).mono ?_
    rintro e w5 ⟨rfl, b5⟩
    have B5 := Lib.hid (bT B4.out b5)
    have D5 := Lib.hid b5
    clear b5
    have hm : ¬ (1 + (n : Int)) < 0 := by omega
    go_wp2_with fail
    refine (IS.out _ B5.out).mono ?_
    rintro e w6 ⟨k', zs', v', u', c', T2, rfl, o6, b6⟩
    obtain ⟨rfl, rfl, rfl, rfl⟩ := TT.out.uniq T2
    rw [HN.out] at o6
    obtain ⟨sl6, cap6, rfl⟩ := own_v o6
    have i6 := (own_ints (zs := zs) (by rw [HN.out]; exact o6))
    have I6 : Hid (Ints w6 sl6 zs) := by
      obtain ⟨x, y, e, hh⟩ := i6
      cases e; exact hh
    have D6 := Lib.hid (bT D5.out b6)
    have B6 := Lib.hid (bT B5.out b6)
    have Q6 := Lib.hid (Q4.out.below D6.out)
    have J6 := Lib.hid (J4.out.below D6.out)
    have hs6 : w1.heap.size < w6.heap.size := Q6.out.lt
    obtain ⟨q0, q1, q2, q3⟩ := Q6.out.cells
    have E7 := Lib.hid (eqO_any k u c sl6 sl cap6 cap zs (w6.alloc (.cells #[.int .i64 k, .slice sl6 n cap6, .int .i64 u, .int .i64 c] 36)) (by rw [HN.out]; unfold maxLen; omega) (I6.out.below (bA0 _ _)) (J6.out.below (bA0 _ _)))
    rw [HN.out] at E7
    clear o6 i6 b6 T2 p0 p1 p2 p3
    go_wp2_with fail
    refine E7.out.mono ?_
    rintro e w7 ⟨rfl, b7⟩
    have D7 := Lib.hid (bT (bA D6.out _) b7)
    have B7 := Lib.hid (bT (bA B6.out _) b7)
    have P7 := Lib.hid (P4.out.below D7.out)
    obtain ⟨p0, p1, p2, p3⟩ := P7.out.cells
    clear b7 q0 q1 q2 q3
    go_wp2_with fail
    refine (H5.out _ D7.out).mono ?_
    rintro e w8 ⟨rfl, b8⟩
    have B8 := Lib.hid (bT B7.out b8)
    go_wp2
    go_ret
    exact ⟨rfl, B8.out⟩
end Go.Proofs.YtnkdkbchendpmaaDoor
