/-
  THE LAWS' CLOCKS: their sizes, and how they are held against each other.
-/
import Derived.Test.YtanoklpffenljaaGreatDoorCa
import Derived.Test.YtanoklpffenljaaGreatDoorPb
namespace Go.Proofs.YtanoklpffenljaaGreatDoor
open Go.RowKit
set_option linter.unusedVariables false

/-- A clock's cells. -/
abbrev CC (sl : Option Addr) (n cap : Nat) (sl2 : Option Addr) (m cap2 : Nat) (top pr st bu : Int) (sl3 : Option Addr) (q cap3 : Nat) (sl4 : Option Addr) (p cap4 : Nat) : Array Value :=
  #[.slice sl n cap, .slice sl2 m cap2, .int .i64 top, .int .i64 pr, .int .i64 st, .int .i64 bu, .slice sl3 q cap3, .slice sl4 p cap4]
/-- A clock. -/
abbrev CV (sl : Option Addr) (n cap : Nat) (sl2 : Option Addr) (m cap2 : Nat) (top pr st bu : Int) (sl3 : Option Addr) (q cap3 : Nat) (sl4 : Option Addr) (p cap4 : Nat) : Value :=
  .agg #[.slice sl n cap, .slice sl2 m cap2, .int .i64 top, .int .i64 pr, .int .i64 st, .int .i64 bu, .slice sl3 q cap3, .slice sl4 p cap4]
theorem cells8 {w : World} {b : Nat} {t : TypeId} {a0 a1 a2 a3 a4 a5 a6 a7 : Value} (h : w.heap[b]? = some (.cells #[a0, a1, a2, a3, a4, a5, a6, a7] t)) :
    w.cell? ⟨b, 0, none⟩ = some a0 ∧ w.cell? ⟨b, 1, none⟩ = some a1 ∧ w.cell? ⟨b, 2, none⟩ = some a2 ∧ w.cell? ⟨b, 3, none⟩ = some a3 ∧ w.cell? ⟨b, 4, none⟩ = some a4 ∧ w.cell? ⟨b, 5, none⟩ = some a5 ∧ w.cell? ⟨b, 6, none⟩ = some a6 ∧ w.cell? ⟨b, 7, none⟩ = some a7 ∧ (∀ o, w.frozen? ⟨b, o, none⟩ = false) ∧ b < w.heap.size := by
  refine ⟨?_, ?_, ?_, ?_, ?_, ?_, ?_, ?_, fun o => ?_, (Array.getElem?_eq_some_iff.1 h).1⟩ <;> simp [World.cell?, World.frozen?, h]

set_option maxRecDepth 100000 in
set_option maxHeartbeats 2000000 in
/-- eqClock. -/
theorem eqC_any (sl sl' : Option Addr) (cap cap' : Nat) (tl tl' : Option Addr) (kap kap' : Nat) (top pr st bu : Int) (bl bl' : Option Addr) (cb cb' : Nat) (pl pl' : Option Addr) (cp cp' : Nat) (rs rs' : List LSt) (ps : List LPr) (bs : List LPr) (ls : List LPl) (w : World) (hn : rs.length ≤ 1048576) (hm : ps.length ≤ 1048576) (hq : bs.length ≤ 1048576) (hl : ls.length ≤ 1048576) (hb : bareS rs = bareS rs') (h : Sts w sl rs) (h' : Sts w sl' rs') (hp : Prs w tl ps) (hp' : Prs w tl' ps) (hbs : Prs w bl bs) (hbs' : Prs w bl' bs) (hls : Pls w pl ls) (hls' : Pls w pl' ls) :
    Calls Tryz.prog 10 #[CV sl rs.length cap tl ps.length kap top pr st bu bl bs.length cb pl ls.length cp, CV sl' rs'.length cap' tl' ps.length kap' top pr st bu bl' bs.length cb' pl' ls.length cp'] w fun e w' => e = .returned (.bool true) ∧ Below w.heap.size w w' := by
  have E1 : Hid (∀ W, Below w.heap.size w W → Calls Tryz.prog 31 #[TV sl rs.length cap tl ps.length kap, TV sl' rs'.length cap' tl' ps.length kap'] W fun e w' => e = .returned (.bool true) ∧ Below W.heap.size W w') := fun W hW => eqT_any sl sl' cap cap' tl tl' kap kap' rs rs' ps W hn hm hb (h.below hW) (h'.below hW) (hp.below hW) (hp'.below hW)
  have E2 : Hid (∀ W, Below w.heap.size w W → Calls Tryz.prog 32 #[.slice bl bs.length cb, .slice bl' bs.length cb'] W fun e w' => e = .returned (.bool true) ∧ Below W.heap.size W w') := fun W hW => eqBS_any bl bl' cb cb' bs W hq (hbs.below hW) (hbs'.below hW)
  have E3 : Hid (∀ W, Below w.heap.size w W → Calls Tryz.prog 33 #[.slice pl ls.length cp, .slice pl' ls.length cp'] W fun e w' => e = .returned (.bool true) ∧ Below W.heap.size W w') := fun W hW => eqPlS_any pl pl' cp cp' ls W hl (hls.below hW) (hls'.below hW)
  clear h h' hp hp' hb hbs hbs' hls hls'
  generalize rs.length = n at *
  generalize rs'.length = n' at *
  generalize ps.length = m at *
  generalize bs.length = q at *
  generalize ls.length = p at *
  go_enter Tryz.func10, Tryz.ntmps10
  go_wp2_with fail
  refine (E1.out _ (bA (bA0 _ _) _)).mono ?_
  rintro e w1 ⟨rfl, b1⟩
  have D1 := Lib.hid (bT (bA (bA0 w _) _) b1)
  have A1 := Lib.hid b1
  obtain ⟨hc, hf⟩ := bcell b1
  clear b1
  go_wp2_with fail
  refine (E2.out _ D1.out).mono ?_
  rintro e w2 ⟨rfl, b2⟩
  have D2 := Lib.hid (bT D1.out b2)
  have A2 := Lib.hid (bT A1.out b2)
  clear hc hf
  obtain ⟨hc, hf⟩ := bcell A2.out
  clear b2 A1
  go_wp2_with fail
  refine (E3.out _ D2.out).mono ?_
  rintro e w3 ⟨rfl, b3⟩
  have D3 := Lib.hid (bT D2.out b3)
  clear b3
  go_wp2
  go_ret
  exact ⟨rfl, D3.out⟩

theorem lft_add (m : Int) (a b : Nat) (h : (a : Int) ≤ m) : lft (m - (a : Int)) b = lft m (a + b) := by
  unfold lft
  by_cases h : (m - (a : Int)) - b < 0
  · rw [if_pos h, if_pos (by omega)]
  · rw [if_neg h, if_neg (by omega)]; omega
theorem lft_neg (m : Int) (a b : Nat) (h : m < a) : lft m (a + b) = -1 := by unfold lft; rw [if_pos]; omega

set_option maxRecDepth 100000 in
set_option maxHeartbeats 2000000 in
/-- szClock. -/
theorem szC_any (sl : Option Addr) (cap : Nat) (tl : Option Addr) (m kap : Nat) (top pr st bu : Int) (bl : Option Addr) (q cb : Nat) (pl : Option Addr) (p cp : Nat) (rs : List LSt) (w : World) (hn : rs.length ≤ maxLen) (hm : m ≤ maxLen) (hq : q ≤ maxLen) (hp : p ≤ maxLen) (hz : Sts0 w sl rs) :
    Calls Tryz.prog 6 #[CV sl rs.length cap tl m kap top pr st bu bl q cb pl p cp, .int .i64 1048576] w fun e w' => e = .returned (.int .i64 (lft 1048576 (rs.length + totD rs + m + q + p))) ∧ Below w.heap.size w w' := by
  have E1 := Lib.hid (szTab_any sl cap tl m kap rs (w.alloc (.cells (CC sl rs.length cap tl m kap top pr st bu bl q cb pl p cp) 29)) hn hm (hz.below (bA0 _ _)))
  have B0 := Lib.hid (bA0 w (.cells (CC sl rs.length cap tl m kap top pr st bu bl q cb pl p cp) 29))
  have TA := Lib.hid (show (w.alloc (.cells (CC sl rs.length cap tl m kap top pr st bu bl q cb pl p cp) 29)).heap[w.heap.size]? = some (.cells (CC sl rs.length cap tl m kap top pr st bu bl q cb pl p cp) 29) from new_at _ _)
  have KC : Hid (∀ W, Below (w.heap.size + 1) (w.alloc (.cells (CC sl rs.length cap tl m kap top pr st bu bl q cb pl p cp) 29)) W → W.cell? ⟨w.heap.size, 6, none⟩ = some (.slice bl q cb) ∧ W.cell? ⟨w.heap.size, 7, none⟩ = some (.slice pl p cp)) := fun W hW => by
    have := (hW.block w.heap.size (by omega)).trans TA.out
    exact ⟨(cells8 this).2.2.2.2.2.2.1, (cells8 this).2.2.2.2.2.2.2.1⟩
  have hS : (w.alloc (.cells (CC sl rs.length cap tl m kap top pr st bu bl q cb pl p cp) 29)).heap.size = w.heap.size + 1 := by simp
  clear hz TA
  rcases lft_cases 1048576 (rs.length + totD rs + m) (by omega) with ⟨e, h⟩ | ⟨e, h⟩
  · rw [e] at E1
    have F := Lib.hid (show lft 1048576 (rs.length + totD rs + m + q + p) = -1 by rw [Nat.add_assoc _ q p]; exact lft_neg _ _ _ h)
    rw [F.out]
    clear F e h KC
    generalize rs.length = n at *
    go_enter Tryz.func6, Tryz.ntmps6
    go_wp2_with fail
    refine E1.out.mono ?_
    rintro e w1 ⟨rfl, b1⟩
    have D1 := Lib.hid (bT B0.out b1)
    clear b1
    go_wp2
    go_ret
    exact ⟨rfl, D1.out⟩
  rw [e] at E1
  have hneg : ¬ (1048576 - ((rs.length + totD rs + m : Nat) : Int)) < 0 := by omega
  have E2 := Lib.hid (fun W => szB_any bl q cb (1048576 - ((rs.length + totD rs + m : Nat) : Int)) W hq (by omega) (by omega))
  rw [Nat.add_assoc _ q p, ← lft_add 1048576 (rs.length + totD rs + m) (q + p) h]
  clear e
  have hz1 : (1048576 - ((rs.length + totD rs + m : Nat) : Int)) ≤ 1048576 := by omega
  generalize (1048576 - ((rs.length + totD rs + m : Nat) : Int)) = z at *
  rcases lft_cases z q (by omega) with ⟨e2, h2⟩ | ⟨e2, h2⟩
  · rw [e2] at E2
    rw [lft_neg z q p h2]
    clear e2 h h2
    generalize rs.length = n at *
    go_enter Tryz.func6, Tryz.ntmps6
    go_wp2_with fail
    refine E1.out.mono ?_
    rintro e w1 ⟨rfl, b1⟩
    have D1 := Lib.hid (bT B0.out b1)
    obtain ⟨c6, c7⟩ := KC.out _ (by rw [← hS]; exact b1)
    clear b1
    go_wp2_with fail
    refine (E2.out _).mono ?_
    rintro e w2 ⟨rfl, b2⟩
    have D2 := Lib.hid (bT D1.out b2)
    clear b2
    go_wp2
    go_ret
    exact ⟨rfl, D2.out⟩
  rw [e2] at E2
  rw [← lft_add z q p h2]
  have E3 := Lib.hid (fun W => szPl_any pl p cp (z - (q : Int)) W hp (by omega) (by omega))
  have hneg2 : ¬ (z - (q : Int)) < 0 := by omega
  have LC := lft_cases (z - (q : Int)) p (by omega)
  clear h h2 e2 hz1
  generalize (z - (q : Int)) = y at *
  generalize lft y p = x at *
  generalize rs.length = n at *
  go_enter Tryz.func6, Tryz.ntmps6
  go_wp2_with fail
  refine E1.out.mono ?_
  rintro e w1 ⟨rfl, b1⟩
  have D1 := Lib.hid (bT B0.out b1)
  have A1 := Lib.hid b1
  obtain ⟨c6, c7⟩ := KC.out _ (by rw [← hS]; exact b1)
  clear b1
  go_wp2_with fail
  refine (E2.out _).mono ?_
  rintro e w2 ⟨rfl, b2⟩
  have D2 := Lib.hid (bT D1.out b2)
  clear c6 c7
  obtain ⟨c6, c7⟩ := KC.out w2 (by rw [← hS]; exact bT A1.out b2)
  clear b2 A1
  go_wp2_with fail
  refine (E3.out _).mono ?_
  rintro e w3 ⟨rfl, rfl⟩
  rcases LC with ⟨rfl, h9⟩ | ⟨hz9, h9⟩
  · go_wp2
    go_ret
    exact ⟨rfl, D2.out⟩
  · have hz0 : ¬ x < 0 := by omega
    clear hz9
    go_wp2
    go_ret
    exact ⟨rfl, D2.out⟩

end Go.Proofs.YtanoklpffenljaaGreatDoor
