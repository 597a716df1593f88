/-
  THE LAW FnExactLogOpen: its walk.
-/
import Derived.Test.YtmffoannknkjkaaDoorOa
namespace Go.Proofs.YtmffoannknkjkaaDoor
open Go.RowKit
set_option linter.unusedVariables false

theorem OwnS.str {w : World} {B : Nat} {sl : Option Addr} {n c : Nat} {ss : List ByteArray} (h : OwnS w B (.slice sl n c) ss) : Strs w sl ss := by
  obtain ⟨sl', c', e, hs⟩ := h.strs
  cases e; exact hs

set_option maxHeartbeats 1000000 in
theorem law4_of (s : ByteArray) (sl : Option Addr) (cap : Nat) (ss : List ByteArray) (w : World) (hz : Strs w sl ss) (hs : ∀ s ∈ ss, s.size ≤ maxLen) (hs0 : s.size ≤ maxLen) (hn : ss.length ≤ maxLen) (hge : 0 ≤ szD 1048576 s ss) 
    (rs : ByteArray) (rl : List ByteArray) (hrl : rl.length ≤ 1048577)
    (SP0 : ∀ w1 a c, Strs w1 a ss → Calls Tryd.prog 14 #[DV s a ss.length c] w1 fun e w' => CopPost rs rl w1 e w')
    (ht : U8 w) (IM0 : ∀ w1 a c, U8 w1 → Strs w1 a ss → Calls Tryd.prog 15 #[DV s a ss.length c] w1 fun e w' => CopPost rs rl w1 e w') :
    Calls Tryd.prog 4 #[DV s sl ss.length cap] w fun e w' => e = .returned (.bool true) ∧ Below w.heap.size w w' := by
  have hsz : (s.size : Int) + ss.length + tot ss ≤ 1048576 := by
    rcases szD_or 1048576 s ss with h | ⟨_, h⟩ <;> omega
  have hl : ¬ szD 1048576 s ss < 0 := by omega
  have HZ : Hid (Strs w sl ss) := hz
  have SP := Lib.hid SP0
  have IM := Lib.hid IM0
  have UT := Lib.hid ht
  clear hz SP0 IM0 ht
  have SZ : Hid (∀ w1, Below w.heap.size w w1 → Calls Tryd.prog 5 #[DV s sl ss.length cap, .int .i64 1048576] w1 fun e w' => e = .returned (.int .i64 (szD 1048576 s ss)) ∧ Below w1.heap.size w1 w') :=
    fun w1 hb => szD_any s sl cap ss 1048576 w1 (by omega) (by omega) hn (HZ.out.below hb) hs hs0
  have T : Hid (∀ w1, Below w.heap.size w w1 → Calls Tryd.prog 7 #[DV s sl ss.length cap] w1 fun e w' => ∃ q, e = .returned (DV s (some ⟨q, 0, none⟩) ss.length ss.length) ∧ OwnS w' w1.heap.size (.slice (some ⟨q, 0, none⟩) ss.length ss.length) ss ∧ Below w1.heap.size w1 w') :=
    fun w1 hb => by
      refine (toD_any s sl cap ss w1 (by omega) (HZ.out.below hb)).mono ?_
      rintro e w' ⟨rfl, hr, hb'⟩
      exact ⟨_, rfl, OwnS.row hr (by omega) hn, hb'⟩
  have EX : Hid (∀ w1 B B2 a c a2 c2, OwnS w1 B (.slice a ss.length c) ss → OwnS w1 B2 (.slice a2 ss.length c2) ss → Calls Tryd.prog 10 #[DV s a ss.length c, DV s a2 ss.length c2] w1 fun e w' => e = .returned (.bool true) ∧ Below w1.heap.size w1 w') :=
    fun w1 B B2 a c a2 c2 h h2 => eqD_any s a a2 c c2 ss w1 hn h.str h2.str
  have EQ : Hid (∀ w1 B B2 a c a2 c2, OwnS w1 B (.slice a rl.length c) rl → OwnS w1 B2 (.slice a2 rl.length c2) rl → Calls Tryd.prog 10 #[DV rs a rl.length c, DV rs a2 rl.length c2] w1 fun e w' => e = .returned (.bool true) ∧ Below w1.heap.size w1 w') :=
    fun w1 B B2 a c a2 c2 h h2 => eqD_any rs a a2 c c2 rl w1 (by unfold maxLen; omega) h.str h2.str
  have MX : Hid (∀ w1 B sx v, OwnS w1 B v ss → Calls Tryd.prog 11 #[.agg #[.string sx, v], .int .i64 1] w1 fun e w' => e = .returned (.int .i64 (1 + (ss.length : Int))) ∧ OwnS w' B v (marks ss.length) ∧ w1.grownBy w' v.ownBlock) := fun w1 B sx v h => markD_any B sx v ss w1 (by omega) h
  have MG : Hid (∀ w1 B sx v, OwnS w1 B v rl → Calls Tryd.prog 11 #[.agg #[.string sx, v], .int .i64 1] w1 fun e w' => e = .returned (.int .i64 (1 + (rl.length : Int))) ∧ OwnS w' B v (marks rl.length) ∧ w1.grownBy w' v.ownBlock) := fun w1 B sx v h => markD_any B sx v rl w1 hrl h
  have HG : Hid (∀ w1 B sx v, OwnS w1 B v (marks rl.length) → Calls Tryd.prog 16 #[.agg #[.string sx, v], .int .i64 1] w1 fun e w' => e = .returned (.int .i64 (1 + (rl.length : Int))) ∧ Below w1.heap.size w1 w') := fun w1 B sx v h => heldD_any B rl.length sx v w1 hrl h
  have CP : Hid (∀ w1 e w', CopPost rs rl w1 e w' → ∃ a c, e = .returned (DV rs a rl.length c) ∧ OwnS w' w1.heap.size (.slice a rl.length c) rl ∧ Below w1.heap.size w1 w') := by
    rintro w1 e w' ⟨v, rfl, o, b⟩
    obtain ⟨a, c, rfl, -⟩ := o.strs
    exact ⟨a, c, rfl, o, b⟩
  have hk0 : ¬ (1 + (ss.length : Int)) < 0 := by omega
  have hk0' : decide ((1 + (ss.length : Int)) < 0) = false := by simp; omega
  have hm0 : ¬ (1 + (rl.length : Int)) < 0 := by omega

  clear hs hs0 hn hsz hge hrl
  generalize marks rl.length = ml at *
  generalize marks ss.length = mx at *
  generalize ss.length = n at *
  generalize rl.length = m at *
  generalize szD 1048576 s ss = z0 at *
  go_enter Tryd.func4, Tryd.ntmps4
  go_wp2_with fail
  refine (SZ.out _ (bA0 _ _)).mono ?_
  rintro e w0 ⟨rfl, b0⟩
  have B0 : Hid (Below w.heap.size w w0) := bT (bA0 _ _) b0
  have R0 : Hid (DAt 24 w0 w.heap.size s (.slice sl n cap)) := (DAt.new 24 w s _).below b0
  obtain ⟨c0, c1⟩ := R0.out.cells
  clear b0 SZ
  go_wp2_with fail
  refine (T.out _ B0.out).mono ?_
  rintro e w1 ⟨q1, rfl, i1, b1⟩
  have I1 := Lib.hid i1
  have B1 : Hid (Below w.heap.size w w1) := bT B0.out b1
  have R1 : Hid (DAt 24 w1 w.heap.size s (.slice sl n cap)) := R0.out.below b1
  have L1 : w.heap.size < w1.heap.size := R1.out.lt
  clear i1 b1 B0 c0 c1 R0
  go_wp2_with fail
  refine (SP.out _ _ _ I1.out.str).mono ?_
  intro e w2 hp2
  obtain ⟨a2, k2, rfl, o2, b2⟩ := CP.out _ _ _ hp2
  have R2 : Hid (DAt 24 (w2.alloc (.cells #[.string rs, .slice a2 m k2] 27)) w.heap.size s (.slice sl n cap)) := (R1.out.below b2).below (bA0 _ _)
  have B2 : Hid (Below w.heap.size w (w2.alloc (.cells #[.string rs, .slice a2 m k2] 27))) := bA (bT B1.out b2) _
  have DW : Hid (DAt 27 (w2.alloc (.cells #[.string rs, .slice a2 m k2] 27)) w2.heap.size rs (.slice a2 m k2)) := DAt.new 27 w2 rs _
  have OW : Hid (OwnS (w2.alloc (.cells #[.string rs, .slice a2 m k2] 27)) w1.heap.size (.slice a2 m k2) rl) := o2.below (bA0 _ _)
  have SW : Hid (∀ k, Value.ownBlock (.slice a2 m k2) = some k → w1.heap.size ≤ k ∧ k < w2.heap.size) := fun k hk => o2.lt hk
  have L2 : w1.heap.size ≤ w2.heap.size := b2.size
  obtain ⟨c0, c1⟩ := R2.out.cells
  clear hp2 o2 b2 I1 B1 R1
  go_wp2_with fail
  refine (T.out _ B2.out).mono ?_
  rintro e w3 ⟨q3, rfl, i3, b3⟩
  have R3 : Hid (DAt 24 (w3.alloc (.cells #[.string s, .slice (some ⟨q3, 0, none⟩) n n] 27)) w.heap.size s (.slice sl n cap)) := (R2.out.below b3).below (bA0 _ _)
  have B3 : Hid (Below w.heap.size w (w3.alloc (.cells #[.string s, .slice (some ⟨q3, 0, none⟩) n n] 27))) := bA (bT B2.out b3) _
  have DW3 : Hid (DAt 27 (w3.alloc (.cells #[.string s, .slice (some ⟨q3, 0, none⟩) n n] 27)) w2.heap.size rs (.slice a2 m k2)) := (DW.out.below b3).below (bA0 _ _)
  have OW3 : Hid (OwnS (w3.alloc (.cells #[.string s, .slice (some ⟨q3, 0, none⟩) n n] 27)) w1.heap.size (.slice a2 m k2) rl) := (OW.out.below b3).below (bA0 _ _)
  have DX : Hid (DAt 27 (w3.alloc (.cells #[.string s, .slice (some ⟨q3, 0, none⟩) n n] 27)) w3.heap.size s (.slice (some ⟨q3, 0, none⟩) n n)) := DAt.new 27 w3 s _
  have OX : Hid (OwnS (w3.alloc (.cells #[.string s, .slice (some ⟨q3, 0, none⟩) n n] 27)) (w2.heap.size + 1) (.slice (some ⟨q3, 0, none⟩) n n) ss) := by
    show OwnS _ _ _ _
    have := i3.below (bA0 _ (.cells #[.string s, .slice (some ⟨q3, 0, none⟩) n n] 27))
    simpa using this
  have SX : Hid (∀ k, Value.ownBlock (.slice (some ⟨q3, 0, none⟩) n n) = some k → w2.heap.size < k ∧ k < w3.heap.size) := fun k hk => by
    have := i3.lt hk; simp at this; omega
  have L3 : w2.heap.size < w3.heap.size := by have := b3.size; simp at this; omega
  clear i3 b3 c0 c1 R2 B2 DW OW
  obtain ⟨d0, d1⟩ := DX.out.cells
  go_wp2_with fail
  refine (IM.out _ _ _ (UT.out.below B3.out) OX.out.str).mono ?_
  intro e w4 hp4
  obtain ⟨a4, k4, rfl, o4, b4⟩ := CP.out _ _ _ hp4
  have ST : Hid (St w s (.slice sl n cap) w2.heap.size w3.heap.size w4.heap.size rs (.slice a2 m k2) (.slice (some ⟨q3, 0, none⟩) n n) (.slice a4 m k4) rl ss rl (w4.alloc (.cells #[.string rs, .slice a4 m k4] 27))) :=
    ⟨bA (bT B3.out b4) _, (R3.out.below b4).below (bA0 _ _), (DW3.out.below b4).below (bA0 _ _), ((OW3.out.below b4).below (bA0 _ _)).mono (by omega), (DX.out.below b4).below (bA0 _ _), ((OX.out.below b4).below (bA0 _ _)).mono (by omega), DAt.new 27 w4 rs _, (o4.below (bA0 _ _)).mono (by simp; omega)⟩
  have SE : Hid (Sep w.heap.size w2.heap.size w3.heap.size w4.heap.size (.slice a2 m k2) (.slice (some ⟨q3, 0, none⟩) n n) (.slice a4 m k4)) :=
    ⟨fun k hk => by have := SW.out k hk; omega, SX.out, fun k hk => by have := o4.lt hk; simp at this; omega, by omega, L3, by have := b4.size; simp at this; omega⟩
  clear hp4 o4 b4 d0 d1 R3 B3 DW3 OW3 DX OX SW SX L1 L2 L3
  generalize w2.heap.size = bW at *
  generalize w3.heap.size = bX at *
  obtain ⟨c0, c1, c2, c3, c4, c5, c6, c7⟩ := ST.out.facts
  go_wp2_with fail
  refine (EQ.out _ _ _ _ _ _ _ ST.out.oG ST.out.oW).mono ?_
  rintro e w6 ⟨rfl, b6⟩
  have ST6 := Lib.hid (ST.out.below b6)
  clear b6 ST
  generalize w4.heap.size = bG at *
  clear c0 c1 c2 c3 c4 c5 c6 c7
  obtain ⟨c0, c1, c2, c3, c4, c5, c6, c7⟩ := ST6.out.facts
  have hx := ST6.out.dX.lt
  have hc := ST6.out.box.lt
  go_wp2_with fail
  generalize hb0 : w.heap.size = b0 at *
  go_region_held3 (fun w' => bX < w'.heap.size ∧ b0 < w'.heap.size ∧ w'.cell? ⟨bX, 0, none⟩ = some (.string s) ∧ w'.cell? ⟨bX, 1, none⟩ = some (.slice (some ⟨q3, 0, none⟩) n n) ∧ w'.cell? ⟨b0, 0, none⟩ = some (.string s) ∧ w'.cell? ⟨b0, 1, none⟩ = some (.slice sl n cap))
    (first | exact ⟨hx, hc, c4, c5, c0, c1⟩ | exact ⟨Nat.lt_of_lt_of_le hx b7.size, Nat.lt_of_lt_of_le hc b7.size, (b7.cell hx).trans c4, (b7.cell hx).trans c5, (b7.cell hc).trans c0, (b7.cell hc).trans c1⟩ | exact ⟨Nat.lt_of_lt_of_le (Nat.lt_of_lt_of_le hx b7.size) b8.size, Nat.lt_of_lt_of_le (Nat.lt_of_lt_of_le hc b7.size) b8.size, (b8.cell (Nat.lt_of_lt_of_le hx b7.size)).trans ((b7.cell hx).trans c4), (b8.cell (Nat.lt_of_lt_of_le hx b7.size)).trans ((b7.cell hx).trans c5), (b8.cell (Nat.lt_of_lt_of_le hc b7.size)).trans ((b7.cell hc).trans c0), (b8.cell (Nat.lt_of_lt_of_le hc b7.size)).trans ((b7.cell hc).trans c1)⟩)
    (first | (go_at_call 7; refine (T.out _ (by first | exact hb0 ▸ ST6.out.bel | exact hb0 ▸ ST6.out.bel.drew | exact hb0 ▸ below_drewN ST6.out.bel _)).mono ?_; rintro e w7 ⟨q7, rfl, i7, b7⟩) | (go_at_call 10; refine (EX.out _ _ _ _ _ _ _ (ST6.out.drew.oX.below b7) i7).mono ?_; rintro e w8 ⟨rfl, b8⟩))
  subst hb0
  have ST8 := Lib.hid ((ST6.out.drew.below b7).below b8)
  clear b7 b8 i7 ST6 c0 c1 c2 c3 c4 c5 c6 c7 hx hc
  obtain ⟨c0, c1, c2, c3, c4, c5, c6, c7⟩ := ST8.out.facts
  go_wp2_with fail
  refine (MX.out _ _ _ _ ST8.out.oX).mono ?_
  rintro e w9 ⟨rfl, o9, g9⟩
  have ST9 := Lib.hid (ST8.out.markX SE.out o9 g9)
  clear o9 g9 ST8 c0 c1 c2 c3 c4 c5 c6 c7
  obtain ⟨c0, c1, c2, c3, c4, c5, c6, c7⟩ := ST9.out.facts
  go_wp2_with fail
  refine (EQ.out _ _ _ _ _ _ _ ST9.out.oG ST9.out.oW).mono ?_
  rintro e w10 ⟨rfl, b10⟩
  have ST10 := Lib.hid (ST9.out.below b10)
  clear b10 ST9 c0 c1 c2 c3 c4 c5 c6 c7
  obtain ⟨c0, c1, c2, c3, c4, c5, c6, c7⟩ := ST10.out.facts
  go_wp2_with fail
  refine (MG.out _ _ _ _ ST10.out.oG).mono ?_
  rintro e w11 ⟨rfl, o11, g11⟩
  have ST11 := Lib.hid (ST10.out.markG SE.out o11 g11)
  clear o11 g11 ST10 c0 c1 c2 c3 c4 c5 c6 c7
  obtain ⟨c0, c1, c2, c3, c4, c5, c6, c7⟩ := ST11.out.facts
  go_wp2_with fail
  refine (HG.out _ _ _ _ ST11.out.oG).mono ?_
  rintro e w12 ⟨rfl, b12⟩
  have ST12 := Lib.hid (ST11.out.below b12)
  clear b12 ST11 c0 c1 c2 c3 c4 c5 c6 c7
  obtain ⟨c0, c1, c2, c3, c4, c5, c6, c7⟩ := ST12.out.facts
  go_wp2_with fail
  refine (T.out _ ST12.out.bel).mono ?_
  rintro e w13 ⟨q13, rfl, i13, b13⟩
  have ST13 := Lib.hid (ST12.out.below b13)
  have I13 := Lib.hid i13
  clear b13 i13 ST12 c0 c1 c2 c3 c4 c5 c6 c7
  go_wp2_with fail
  refine (IM.out _ _ _ (UT.out.below ST13.out.bel) I13.out.str).mono ?_
  intro e w14 hp14
  obtain ⟨a14, k14, rfl, o14, b14⟩ := CP.out _ _ _ hp14
  have ST14 := Lib.hid ((ST13.out.below b14).below (bA0 _ (.cells #[.string rs, .slice a14 m k14] 27)))
  have O14 := Lib.hid (o14.below (bA0 _ (.cells #[.string rs, .slice a14 m k14] 27)))
  have DH := Lib.hid (DAt.new 27 w14 rs (.slice a14 m k14))
  clear hp14 o14 b14 ST13 I13
  obtain ⟨c0, c1, c2, c3, c4, c5, c6, c7⟩ := ST14.out.facts
  obtain ⟨h0, h1⟩ := DH.out.cells
  go_wp2_with fail
  refine (EQ.out _ _ _ _ _ _ _ O14.out ST14.out.oW).mono ?_
  rintro e w15 ⟨rfl, b15⟩
  have ST15 := Lib.hid (ST14.out.below b15)
  clear b15 ST14 O14 DH h0 h1 c0 c1 c2 c3 c4 c5 c6 c7
  obtain ⟨c0, c1, c2, c3, c4, c5, c6, c7⟩ := ST15.out.facts
  go_wp2_with fail
  refine (HG.out _ _ _ _ ST15.out.oG).mono ?_
  rintro e w16 ⟨rfl, b16⟩
  have B16 := Lib.hid (ST15.out.below b16).bel
  clear b16 ST15 c0 c1 c2 c3 c4 c5 c6 c7
  go_wp2
  go_ret
  exact ⟨rfl, B16.out⟩

theorem law4_long (s : ByteArray) (sl : Option Addr) (cap : Nat) (ss : List ByteArray) (w : World) (hz : Strs w sl ss) (hs : ∀ s ∈ ss, s.size ≤ maxLen) (hs0 : s.size ≤ maxLen) (hn : ss.length ≤ maxLen) (hge : szD 1048576 s ss = -1) :
    Calls Tryd.prog 4 #[DV s sl ss.length cap] w fun e w' => e = .returned (.bool true) ∧ Below w.heap.size w w' := by
  have SZ : Hid (∀ w1, Below w.heap.size w w1 → Calls Tryd.prog 5 #[DV s sl ss.length cap, .int .i64 1048576] w1 fun e w' => e = .returned (.int .i64 (-1)) ∧ Below w1.heap.size w1 w') :=
    fun w1 hb => by have := szD_any s sl cap ss 1048576 w1 (by omega) (by omega) hn (hz.below hb) hs hs0; rwa [hge] at this

  clear hz hs hs0 hn hge
  generalize ss.length = n at *
  go_enter Tryd.func4, Tryd.ntmps4
  go_wp2_with fail
  refine (SZ.out _ (bA0 _ _)).mono ?_
  rintro e w0 ⟨rfl, b0⟩
  go_wp2
  go_ret
  exact ⟨rfl, bT (bA0 _ _) b0⟩

theorem law4_all (s : ByteArray) (sl : Option Addr) (cap : Nat) (ss : List ByteArray) (w : World) (hz : Strs w sl ss) (hs : ∀ s ∈ ss, s.size ≤ maxLen) (hs0 : s.size ≤ maxLen) (hn : ss.length ≤ maxLen) (ht : U8 w) :
    Calls Tryd.prog 4 #[DV s sl ss.length cap] w fun e w' => e = .returned (.bool true) ∧ Below w.heap.size w w' := by
  rcases szD_or 1048576 s ss with h | ⟨h, e⟩
  · exact law4_long s sl cap ss w hz hs hs0 hn h
  · have hl : ss.length ≤ 1048576 := by omega
    have hS : s.size + tot ss ≤ 4000000 := by omega
    have hL : (loL s ss).length ≤ 1048577 := by
      unfold loL
      split
      · simp
      · omega
    exact law4_of s sl cap ss w hz hs hs0 hn h (loS s ss) (loL s ss) hL (fun w1 a c h1 => slo_any s a c ss w1 hl h1) ht (fun w1 a c hu h1 => ilo_any s a c ss w1 hS hl h1 hu)

end Go.Proofs.YtmffoannknkjkaaDoor
