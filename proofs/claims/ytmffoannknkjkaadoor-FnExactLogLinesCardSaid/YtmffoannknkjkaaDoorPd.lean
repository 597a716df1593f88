/-
  THE LAW FnExactLogLines: its walk.
-/
import Derived.Test.YtmffoannknkjkaaDoorPc
import Derived.Test.YtmffoannknkjkaaDoorOb
namespace Go.Proofs.YtmffoannknkjkaaDoor
open Go.RowKit
set_option linter.unusedVariables false

/-- What stands where while the law goes: its argument's box, the lists told (W) and answered (G), the disk handed in (X). -/
structure Sl (w : World) (s : ByteArray) (va : Value) (bX : Nat) (vW vX vG : Value) (rl xl gl : List ByteArray) (W : World) : Prop where
  bel : Below w.heap.size w W
  box : DAt 24 W w.heap.size s va
  oW : OwnS W w.heap.size vW rl
  dX : DAt 27 W bX s vX
  oX : OwnS W w.heap.size vX xl
  oG : OwnS W w.heap.size vG gl
/-- Their rows lie apart. -/
structure Sp (b0 bX : Nat) (vW vX vG : Value) : Prop where
  w : ∀ k, vW.ownBlock = some k → b0 < k ∧ k < bX
  x : ∀ k, vX.ownBlock = some k → b0 < k ∧ k < bX ∧ vW.ownBlock ≠ some k
  g : ∀ k, vG.ownBlock = some k → bX < k
  o : b0 < bX
section
variable {w : World} {s : ByteArray} {va : Value} {bX : Nat} {vW vX vG : Value} {rl xl gl : List ByteArray} {W W' : World}
theorem Sl.below (h : Sl w s va bX vW vX vG rl xl gl W) (hb : Below W.heap.size W W') : Sl w s va bX vW vX vG rl xl gl W' :=
  ⟨bT h.bel hb, h.box.below hb, h.oW.below hb, h.dX.below hb, h.oX.below hb, h.oG.below hb⟩
theorem Sl.drew (h : Sl w s va bX vW vX vG rl xl gl W) : Sl w s va bX vW vX vG rl xl gl W.drew := ⟨h.bel.drew, h.box, h.oW, h.dX, h.oX, h.oG⟩
theorem Sl.facts (h : Sl w s va bX vW vX vG rl xl gl W) : W.cell? ⟨w.heap.size, 0, none⟩ = some (.string s) ∧ W.cell? ⟨w.heap.size, 1, none⟩ = some va ∧ W.cell? ⟨bX, 0, none⟩ = some (.string s) ∧ W.cell? ⟨bX, 1, none⟩ = some vX :=
  ⟨h.box.cells.1, h.box.cells.2, h.dX.cells.1, h.dX.cells.2⟩
theorem Sl.markX (h : Sl w s va bX vW vX vG rl xl gl W) (hs : Sp w.heap.size bX vW vX vG) {ml : List ByteArray} (ho : OwnS W' w.heap.size vX ml) (hg : W.grownBy W' vX.ownBlock) : Sl w s va bX vW vX vG rl ml gl W' := by
  have x := hs.x
  refine ⟨h.bel.grown hg h.bel.size (fun k hk => ?_), h.box.grown hg (fun e => ?_), h.oW.grown hg (fun k hk e => ?_), h.dX.grown hg (fun e => ?_), ho, h.oG.grown hg (fun k hk e => ?_)⟩
  · have := x k hk; omega
  · have := x _ e; omega
  · exact (x k hk).2.2 e
  · have := x _ e; omega
  · have := x k hk; have := hs.g k e; omega
theorem Sl.markG (h : Sl w s va bX vW vX vG rl xl gl W) (hs : Sp w.heap.size bX vW vX vG) {ml : List ByteArray} (ho : OwnS W' w.heap.size vG ml) (hg : W.grownBy W' vG.ownBlock) : Sl w s va bX vW vX vG rl xl ml W' := by
  have x := hs.g
  refine ⟨h.bel.grown hg h.bel.size (fun k hk => ?_), h.box.grown hg (fun e => ?_), h.oW.grown hg (fun k hk e => ?_), h.dX.grown hg (fun e => ?_), h.oX.grown hg (fun k hk e => ?_), ho⟩
  · have := x k hk; have := hs.o; omega
  · have := x _ e; have := hs.o; omega
  · have := x k hk; have := hs.w k e; omega
  · have := x _ e; omega
  · have := x k hk; have := hs.x k e; omega
end

set_option maxHeartbeats 1000000 in
theorem law3_of (s : ByteArray) (sl : Option Addr) (cap : Nat) (ss : List ByteArray) (w : World) (hz : Strs w sl ss) (hs : ∀ s ∈ ss, s.size ≤ maxLen) (hs0 : s.size ≤ maxLen) (hn : ss.length ≤ maxLen) (hge : 0 ≤ szD 1048576 s ss)
    (rl : List ByteArray) (hrl : rl.length ≤ 1048576) (hrl' : linesZ (lor s ss) = rl)
    (SP0 : ∀ w1 a c, Strs w1 a ss → Calls Tryd.prog 6 #[DV s a ss.length c] w1 fun e w' => LLPost s ss w1 e w')
    (ht : U8 w) (IM0 : ∀ w1 a c, U8 w1 → Strs w1 a ss → Calls Tryd.prog 8 #[DV s a ss.length c] w1 fun e w' => LLPost s ss w1 e w') :
    Calls Tryd.prog 3 #[DV s sl ss.length cap] w fun e w' => e = .returned (.bool true) ∧ Below w.heap.size w w' := by
  have hsz : (s.size : Int) + ss.length + tot ss ≤ 1048576 := by
    rcases szD_or 1048576 s ss with h | ⟨_, h⟩ <;> omega
  have hl : ¬ szD 1048576 s ss < 0 := by omega
  have HZ : Hid (Strs w sl ss) := hz
  have SP := Lib.hid SP0
  have IM := Lib.hid IM0
  have UT := Lib.hid ht
  clear hz SP0 IM0 ht
  have SZ : Hid (∀ w1, Below w.heap.size w w1 → Calls Tryd.prog 5 #[DV s sl ss.length cap, .int .i64 1048576] w1 fun e w' => e = .returned (.int .i64 (szD 1048576 s ss)) ∧ Below w1.heap.size w1 w') :=
    fun w1 hb => szD_any s sl cap ss 1048576 w1 (by omega) (by omega) hn (HZ.out.below hb) hs hs0
  have T : Hid (∀ w1, Below w.heap.size w w1 → Calls Tryd.prog 7 #[DV s sl ss.length cap] w1 fun e w' => ∃ q, e = .returned (DV s (some ⟨q, 0, none⟩) ss.length ss.length) ∧ OwnS w' w1.heap.size (.slice (some ⟨q, 0, none⟩) ss.length ss.length) ss ∧ Below w1.heap.size w1 w') :=
    fun w1 hb => by
      refine (toD_any s sl cap ss w1 (by omega) (HZ.out.below hb)).mono ?_
      rintro e w' ⟨rfl, hr, hb'⟩
      exact ⟨_, rfl, OwnS.row hr (by omega) hn, hb'⟩
  have EX : Hid (∀ w1 B B2 a c a2 c2, OwnS w1 B (.slice a ss.length c) ss → OwnS w1 B2 (.slice a2 ss.length c2) ss → Calls Tryd.prog 10 #[DV s a ss.length c, DV s a2 ss.length c2] w1 fun e w' => e = .returned (.bool true) ∧ Below w1.heap.size w1 w') :=
    fun w1 B B2 a c a2 c2 h h2 => eqD_any s a a2 c c2 ss w1 hn h.str h2.str
  have EQ : Hid (∀ w1 B B2 a c a2 c2, OwnS w1 B (.slice a rl.length c) rl → OwnS w1 B2 (.slice a2 rl.length c2) rl → Calls Tryd.prog 9 #[.slice a rl.length c, .slice a2 rl.length c2] w1 fun e w' => e = .returned (.bool true) ∧ Below w1.heap.size w1 w') :=
    fun w1 B B2 a c a2 c2 h h2 => eq_any a a2 c c2 rl w1 (by unfold maxLen; omega) h.str h2.str
  have MX : Hid (∀ w1 B sx v, OwnS w1 B v ss → Calls Tryd.prog 11 #[.agg #[.string sx, v], .int .i64 1] w1 fun e w' => e = .returned (.int .i64 (1 + (ss.length : Int))) ∧ OwnS w' B v (marks ss.length) ∧ w1.grownBy w' v.ownBlock) := fun w1 B sx v h => markD_any B sx v ss w1 (by omega) h
  have MG : Hid (∀ w1 B v, OwnS w1 B v rl → Calls Tryd.prog 12 #[v, .int .i64 1] w1 fun e w' => e = .returned (.int .i64 (1 + (rl.length : Int))) ∧ OwnS w' B v (marks rl.length) ∧ w1.grownBy w' v.ownBlock) := fun w1 B v h => markS_any B v rl w1 (by omega) h
  have HG : Hid (∀ w1 B v, OwnS w1 B v (marks rl.length) → Calls Tryd.prog 13 #[v, .int .i64 1] w1 fun e w' => e = .returned (.int .i64 (1 + (rl.length : Int))) ∧ Below w1.heap.size w1 w') := fun w1 B v h => heldS_any B rl.length v w1 (by omega) h
  have CP : Hid (∀ w1 e w', LLPost s ss w1 e w' → ∃ a c, e = .returned (.slice a rl.length c) ∧ OwnS w' w1.heap.size (.slice a rl.length c) rl ∧ Below w1.heap.size w1 w') := by
    rintro w1 e w' ⟨v, rfl, o, b⟩
    rw [hrl'] at o
    obtain ⟨a, c, rfl, -⟩ := o.strs
    exact ⟨a, c, rfl, o, b⟩
  have hk0 : ¬ (1 + (ss.length : Int)) < 0 := by omega
  have hk0' : decide ((1 + (ss.length : Int)) < 0) = false := by simp; omega
  have hm0 : ¬ (1 + (rl.length : Int)) < 0 := by omega
  clear hs hs0 hn hsz hge hrl hrl'
  generalize marks rl.length = ml at *
  generalize marks ss.length = mx at *
  generalize ss.length = n at *
  generalize rl.length = m at *
  generalize szD 1048576 s ss = z0 at *
  go_enter Tryd.func3, Tryd.ntmps3
  go_wp2_with fail
  refine (SZ.out _ (bA0 _ _)).mono ?_
  rintro e w0 ⟨rfl, b0⟩
  have B0 : Hid (Below w.heap.size w w0) := bT (bA0 _ _) b0
  have R0 : Hid (DAt 24 w0 w.heap.size s (.slice sl n cap)) := (DAt.new 24 w s _).below b0
  obtain ⟨c0, c1⟩ := R0.out.cells
  clear b0 SZ
  go_wp2_with fail
  refine (T.out _ B0.out).mono ?_
  rintro e w1 ⟨q1, rfl, i1, b1⟩
  have I1 := Lib.hid i1
  have B1 : Hid (Below w.heap.size w w1) := bT B0.out b1
  have R1 : Hid (DAt 24 w1 w.heap.size s (.slice sl n cap)) := R0.out.below b1
  have L1 : w.heap.size < w1.heap.size := R1.out.lt
  clear i1 b1 B0 c0 c1 R0
  go_wp2_with fail
  refine (SP.out _ _ _ I1.out.str).mono ?_
  intro e w2 hp2
  obtain ⟨a2, k2, rfl, o2, b2⟩ := CP.out _ _ _ hp2
  have R2 : Hid (DAt 24 w2 w.heap.size s (.slice sl n cap)) := R1.out.below b2
  have B2 : Hid (Below w.heap.size w w2) := bT B1.out b2
  have OW : Hid (OwnS w2 w1.heap.size (.slice a2 m k2) rl) := o2
  have SW : Hid (∀ k, Value.ownBlock (.slice a2 m k2) = some k → w1.heap.size ≤ k ∧ k < w2.heap.size) := fun k hk => o2.lt hk
  have L2 : w1.heap.size ≤ w2.heap.size := b2.size
  obtain ⟨c0, c1⟩ := R2.out.cells
  clear hp2 o2 b2 I1 B1 R1
  go_wp2_with fail
  refine (T.out _ B2.out).mono ?_
  rintro e w3 ⟨q3, rfl, i3, b3⟩
  have R3 : Hid (DAt 24 (w3.alloc (.cells #[.string s, .slice (some ⟨q3, 0, none⟩) n n] 27)) w.heap.size s (.slice sl n cap)) := (R2.out.below b3).below (bA0 _ _)
  have B3 : Hid (Below w.heap.size w (w3.alloc (.cells #[.string s, .slice (some ⟨q3, 0, none⟩) n n] 27))) := bA (bT B2.out b3) _
  have OW3 : Hid (OwnS (w3.alloc (.cells #[.string s, .slice (some ⟨q3, 0, none⟩) n n] 27)) w1.heap.size (.slice a2 m k2) rl) := (OW.out.below b3).below (bA0 _ _)
  have DX : Hid (DAt 27 (w3.alloc (.cells #[.string s, .slice (some ⟨q3, 0, none⟩) n n] 27)) w3.heap.size s (.slice (some ⟨q3, 0, none⟩) n n)) := DAt.new 27 w3 s _
  have OX : Hid (OwnS (w3.alloc (.cells #[.string s, .slice (some ⟨q3, 0, none⟩) n n] 27)) w2.heap.size (.slice (some ⟨q3, 0, none⟩) n n) ss) := i3.below (bA0 _ (.cells #[.string s, .slice (some ⟨q3, 0, none⟩) n n] 27))
  have SX : Hid (∀ k, Value.ownBlock (.slice (some ⟨q3, 0, none⟩) n n) = some k → w2.heap.size ≤ k ∧ k < w3.heap.size) := fun k hk => i3.lt hk
  have L3 : w2.heap.size ≤ w3.heap.size := b3.size
  clear i3 b3 c0 c1 R2 B2 OW
  obtain ⟨d0, d1⟩ := DX.out.cells
  go_wp2_with fail
  refine (IM.out _ _ _ (UT.out.below B3.out) OX.out.str).mono ?_
  intro e w4 hp4
  obtain ⟨a4, k4, rfl, o4, b4⟩ := CP.out _ _ _ hp4
  have ST : Hid (Sl w s (.slice sl n cap) w3.heap.size (.slice a2 m k2) (.slice (some ⟨q3, 0, none⟩) n n) (.slice a4 m k4) rl ss rl w4) :=
    ⟨bT B3.out b4, R3.out.below b4, (OW3.out.below b4).mono (by omega), DX.out.below b4, (OX.out.below b4).mono (by omega), o4.mono (by simp; omega)⟩
  have SE : Hid (Sp w.heap.size w3.heap.size (.slice a2 m k2) (.slice (some ⟨q3, 0, none⟩) n n) (.slice a4 m k4)) :=
    ⟨fun k hk => by have := SW.out k hk; omega, fun k hk => by have h1 := SX.out k hk; exact ⟨by omega, by omega, fun e => by have := SW.out k e; omega⟩, fun k hk => by have := o4.lt hk; simp at this; omega, by omega⟩
  clear hp4 o4 b4 d0 d1 R3 B3 OW3 DX OX SW SX L1 L2 L3
  generalize w3.heap.size = bX at *
  obtain ⟨c0, c1, c4, c5⟩ := ST.out.facts
  go_wp2_with fail
  refine (EQ.out _ _ _ _ _ _ _ ST.out.oG ST.out.oW).mono ?_
  rintro e w6 ⟨rfl, b6⟩
  have ST6 := Lib.hid (ST.out.below b6)
  clear b6 ST
  clear c0 c1 c4 c5
  obtain ⟨c0, c1, c4, c5⟩ := ST6.out.facts
  have hx := ST6.out.dX.lt
  have hc := ST6.out.box.lt
  go_wp2_with fail
  generalize hb0 : w.heap.size = b0 at *
  go_region_held3 (fun w' => bX < w'.heap.size ∧ b0 < w'.heap.size ∧ w'.cell? ⟨bX, 0, none⟩ = some (.string s) ∧ w'.cell? ⟨bX, 1, none⟩ = some (.slice (some ⟨q3, 0, none⟩) n n) ∧ w'.cell? ⟨b0, 0, none⟩ = some (.string s) ∧ w'.cell? ⟨b0, 1, none⟩ = some (.slice sl n cap))
    (first | exact ⟨hx, hc, c4, c5, c0, c1⟩ | exact ⟨Nat.lt_of_lt_of_le hx b7.size, Nat.lt_of_lt_of_le hc b7.size, (b7.cell hx).trans c4, (b7.cell hx).trans c5, (b7.cell hc).trans c0, (b7.cell hc).trans c1⟩ | exact ⟨Nat.lt_of_lt_of_le (Nat.lt_of_lt_of_le hx b7.size) b8.size, Nat.lt_of_lt_of_le (Nat.lt_of_lt_of_le hc b7.size) b8.size, (b8.cell (Nat.lt_of_lt_of_le hx b7.size)).trans ((b7.cell hx).trans c4), (b8.cell (Nat.lt_of_lt_of_le hx b7.size)).trans ((b7.cell hx).trans c5), (b8.cell (Nat.lt_of_lt_of_le hc b7.size)).trans ((b7.cell hc).trans c0), (b8.cell (Nat.lt_of_lt_of_le hc b7.size)).trans ((b7.cell hc).trans c1)⟩)
    (first | (go_at_call 7; refine (T.out _ (by first | exact hb0 ▸ ST6.out.bel | exact hb0 ▸ ST6.out.bel.drew | exact hb0 ▸ below_drewN ST6.out.bel _)).mono ?_; rintro e w7 ⟨q7, rfl, i7, b7⟩) | (go_at_call 10; refine (EX.out _ _ _ _ _ _ _ (ST6.out.drew.oX.below b7) i7).mono ?_; rintro e w8 ⟨rfl, b8⟩))
  subst hb0
  have ST8 := Lib.hid ((ST6.out.drew.below b7).below b8)
  clear b7 b8 i7 ST6 c0 c1 c4 c5 hx hc
  obtain ⟨c0, c1, c4, c5⟩ := ST8.out.facts
  go_wp2_with fail
  refine (MX.out _ _ _ _ ST8.out.oX).mono ?_
  rintro e w9 ⟨rfl, o9, g9⟩
  have ST9 := Lib.hid (ST8.out.markX SE.out o9 g9)
  clear o9 g9 ST8 c0 c1 c4 c5
  obtain ⟨c0, c1, c4, c5⟩ := ST9.out.facts
  go_wp2_with fail
  refine (EQ.out _ _ _ _ _ _ _ ST9.out.oG ST9.out.oW).mono ?_
  rintro e w10 ⟨rfl, b10⟩
  have ST10 := Lib.hid (ST9.out.below b10)
  clear b10 ST9 c0 c1 c4 c5
  obtain ⟨c0, c1, c4, c5⟩ := ST10.out.facts
  go_wp2_with fail
  refine (MG.out _ _ _ ST10.out.oG).mono ?_
  rintro e w11 ⟨rfl, o11, g11⟩
  have ST11 := Lib.hid (ST10.out.markG SE.out o11 g11)
  clear o11 g11 ST10 c0 c1 c4 c5
  obtain ⟨c0, c1, c4, c5⟩ := ST11.out.facts
  go_wp2_with fail
  refine (HG.out _ _ _ ST11.out.oG).mono ?_
  rintro e w12 ⟨rfl, b12⟩
  have ST12 := Lib.hid (ST11.out.below b12)
  clear b12 ST11 c0 c1 c4 c5
  obtain ⟨c0, c1, c4, c5⟩ := ST12.out.facts
  go_wp2_with fail
  refine (T.out _ ST12.out.bel).mono ?_
  rintro e w13 ⟨q13, rfl, i13, b13⟩
  have ST13 := Lib.hid (ST12.out.below b13)
  have I13 := Lib.hid i13
  clear b13 i13 ST12 c0 c1 c4 c5
  go_wp2_with fail
  refine (IM.out _ _ _ (UT.out.below ST13.out.bel) I13.out.str).mono ?_
  intro e w14 hp14
  obtain ⟨a14, k14, rfl, o14, b14⟩ := CP.out _ _ _ hp14
  have ST14 := Lib.hid (ST13.out.below b14)
  have O14 := Lib.hid o14
  clear hp14 o14 b14 ST13 I13
  go_wp2_with fail
  refine (EQ.out _ _ _ _ _ _ _ O14.out ST14.out.oW).mono ?_
  rintro e w15 ⟨rfl, b15⟩
  have ST15 := Lib.hid (ST14.out.below b15)
  clear b15 ST14 O14
  go_wp2_with fail
  refine (HG.out _ _ _ ST15.out.oG).mono ?_
  rintro e w16 ⟨rfl, b16⟩
  have B16 := Lib.hid (ST15.out.below b16).bel
  clear b16 ST15
  go_wp2
  go_ret
  exact ⟨rfl, B16.out⟩

theorem law3_long (s : ByteArray) (sl : Option Addr) (cap : Nat) (ss : List ByteArray) (w : World) (hz : Strs w sl ss) (hs : ∀ s ∈ ss, s.size ≤ maxLen) (hs0 : s.size ≤ maxLen) (hn : ss.length ≤ maxLen) (hge : szD 1048576 s ss = -1) :
    Calls Tryd.prog 3 #[DV s sl ss.length cap] w fun e w' => e = .returned (.bool true) ∧ Below w.heap.size w w' := by
  have SZ : Hid (∀ w1, Below w.heap.size w w1 → Calls Tryd.prog 5 #[DV s sl ss.length cap, .int .i64 1048576] w1 fun e w' => e = .returned (.int .i64 (-1)) ∧ Below w1.heap.size w1 w') :=
    fun w1 hb => by have := szD_any s sl cap ss 1048576 w1 (by omega) (by omega) hn (hz.below hb) hs hs0; rwa [hge] at this
  clear hz hs hs0 hn hge
  generalize ss.length = n at *
  go_enter Tryd.func3, Tryd.ntmps3
  go_wp2_with fail
  refine (SZ.out _ (bA0 _ _)).mono ?_
  rintro e w0 ⟨rfl, b0⟩
  go_wp2
  go_ret
  exact ⟨rfl, bT (bA0 _ _) b0⟩

theorem law3_all (s : ByteArray) (sl : Option Addr) (cap : Nat) (ss : List ByteArray) (w : World) (hz : Strs w sl ss) (hs : ∀ s ∈ ss, s.size ≤ maxLen) (hs0 : s.size ≤ maxLen) (hn : ss.length ≤ maxLen) (ht : U8 w) :
    Calls Tryd.prog 3 #[DV s sl ss.length cap] w fun e w' => e = .returned (.bool true) ∧ Below w.heap.size w w' := by
  rcases szD_or 1048576 s ss with h | ⟨h, e⟩
  · exact law3_long s sl cap ss w hz hs hs0 hn h
  · have hS : s.size + tot ss ≤ 4000000 := by omega
    exact law3_of s sl cap ss w hz hs hs0 hn h _ (by have := linesZ_len (lor s ss); omega) rfl (fun w1 a c h1 => sll_any s a c ss w1 h1) ht (fun w1 a c hu h1 => ill_any s a c ss w1 hS h1 hu)

end Go.Proofs.YtmffoannknkjkaaDoor
