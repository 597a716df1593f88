/-
  AN ENGINE OF THE LAWS: its size, how two are held against each other, its copy.
  AN ENGINE OF THE LAWS COPIED.
  IS A STAGE THE ZERO ONE? IS THERE NOTHING IN A TABLE?
  IS AN ENGINE RIGHT? Both sides, over what they say of its table, its Ids and its stage.
  THE LAW FnExactEngineRight: its walk, the engine's cells taken as whole rows.
-/
import Derived.Test.YtdbebcigikbjgaaGreatEz
import Derived.Deep.WholeRow
import Derived.Laws.CopyOwn
namespace Go.Proofs.YtdbebcigikbjgaaGreat
open Go.RowKit
set_option linter.unusedVariables false

set_option maxRecDepth 100000 in
set_option maxHeartbeats 1000000 in
/-- szTable. -/
theorem szTabM_any (M0 : Int) (hM0 : 0 ≤ M0) (hM1 : M0 ≤ 1048576) (sl : Option Addr) (cap : Nat) (sl2 : Option Addr) (np cap2 : Nat) (rs : List LSt) (w : World) (hn : rs.length ≤ maxLen) (hp : np ≤ maxLen) (hz : Sts0 w sl rs) :
    Calls Tryz.prog 9 #[TV sl rs.length cap sl2 np cap2, .int .i64 M0] w fun e w' => e = .returned (.int .i64 (lft M0 (rs.length + totD rs + np))) ∧ Below w.heap.size w w' := by
  have E1 := Lib.hid (szSS_any sl cap rs M0 (w.alloc (.cells #[.slice sl rs.length cap, .slice sl2 np cap2] 25)) hn (by omega) (by omega) (hz.below (bA0 _ _)))
  have B0 := Lib.hid (bA0 w (.cells #[.slice sl rs.length cap, .slice sl2 np cap2] 25))
  unfold maxLen at hp hn
  clear hz
  rcases lft_cases M0 (rs.length + totD rs) (by omega) with ⟨e, h⟩ | ⟨e, h⟩
  · rw [e] at E1
    have F := Lib.hid (show lft M0 (rs.length + totD rs + np) = -1 by unfold lft; rw [if_pos]; omega)
    clear e h
    generalize rs.length = n at *
    go_enter Tryz.func9, Tryz.ntmps9
    go_wp2_with fail
    refine E1.out.mono ?_
    rintro e w1 ⟨rfl, b1⟩
    have D1 := Lib.hid (bT B0.out b1)
    clear b1
    go_wp2
    go_ret
    exact ⟨by rw [F.out]; rfl, D1.out⟩
  · rw [e] at E1
    have E2 := Lib.hid (fun W => szP_any sl2 np cap2 (M0 - ((rs.length + totD rs : Nat) : Int)) W (by unfold maxLen; omega) (by omega) (by omega))
    have hneg : ¬ (M0 - ((rs.length + totD rs : Nat) : Int)) < 0 := by omega
    have F := Lib.hid (show lft M0 (rs.length + totD rs + np) = lft (M0 - ((rs.length + totD rs : Nat) : Int)) np by
      unfold lft
      by_cases h : (M0 - ((rs.length + totD rs : Nat) : Int)) - np < 0
      · rw [if_pos h, if_pos (by omega)]
      · rw [if_neg h, if_neg (by omega)]; omega)
    rw [F.out]
    clear e F
    have LC := lft_cases (M0 - ((rs.length + totD rs : Nat) : Int)) np (by omega)
    generalize rs.length + totD rs = s at *
    generalize rs.length = n at *
    have TA := Lib.hid (show (w.alloc (.cells #[.slice sl n cap, .slice sl2 np cap2] 25)).heap[w.heap.size]? = some (.cells #[.slice sl n cap, .slice sl2 np cap2] 25) by show (w.heap.push _)[w.heap.size]? = _; simp)
    have KC : Hid (∀ W, Below (w.heap.size + 1) (w.alloc (.cells #[.slice sl n cap, .slice sl2 np cap2] 25)) W → W.cell? ⟨w.heap.size, 1, none⟩ = some (.slice sl2 np cap2)) := fun W hW => by
      have := (hW.block w.heap.size (by omega)).trans TA.out
      simp [World.cell?, this]
    generalize lft (M0 - (s : Int)) np = z at *
    go_enter Tryz.func9, Tryz.ntmps9
    go_wp2_with fail
    refine E1.out.mono ?_
    rintro e w1 ⟨rfl, b1⟩
    have D1 := Lib.hid (bT B0.out b1)
    have c1 := KC.out _ (by have := b1; simpa using this)
    clear b1
    go_wp2_with fail
    refine (E2.out _).mono ?_
    rintro e w2 ⟨rfl, b2⟩
    have D2 := Lib.hid (bT D1.out b2)
    clear b2
    rcases LC with ⟨rfl, h9⟩ | ⟨hz9, h9⟩
    · go_wp2
      go_ret
      exact ⟨rfl, D2.out⟩
    · have hz0 : ¬ z < 0 := by omega
      clear hz9
      go_wp2
      go_ret
      exact ⟨rfl, D2.out⟩

set_option maxRecDepth 100000 in
set_option maxHeartbeats 2000000 in
/-- szClock. -/
theorem szCM_any (M0 : Int) (hM0 : 0 ≤ M0) (hM1 : M0 ≤ 1048576) (sl : Option Addr) (cap : Nat) (tl : Option Addr) (m kap : Nat) (top pr st bu : Int) (bl : Option Addr) (q cb : Nat) (pl : Option Addr) (p cp : Nat) (rs : List LSt) (w : World) (hn : rs.length ≤ maxLen) (hm : m ≤ maxLen) (hq : q ≤ maxLen) (hp : p ≤ maxLen) (hz : Sts0 w sl rs) :
    Calls Tryz.prog 30 #[CV sl rs.length cap tl m kap top pr st bu bl q cb pl p cp, .int .i64 M0] w fun e w' => e = .returned (.int .i64 (lft M0 (rs.length + totD rs + m + q + p))) ∧ Below w.heap.size w w' := by
  have E1 := Lib.hid (szTabM_any M0 hM0 hM1 sl cap tl m kap rs (w.alloc (.cells (CC sl rs.length cap tl m kap top pr st bu bl q cb pl p cp) 30)) hn hm (hz.below (bA0 _ _)))
  have B0 := Lib.hid (bA0 w (.cells (CC sl rs.length cap tl m kap top pr st bu bl q cb pl p cp) 30))
  have TA := Lib.hid (show (w.alloc (.cells (CC sl rs.length cap tl m kap top pr st bu bl q cb pl p cp) 30)).heap[w.heap.size]? = some (.cells (CC sl rs.length cap tl m kap top pr st bu bl q cb pl p cp) 30) from new_at _ _)
  have KC : Hid (∀ W, Below (w.heap.size + 1) (w.alloc (.cells (CC sl rs.length cap tl m kap top pr st bu bl q cb pl p cp) 30)) W → W.cell? ⟨w.heap.size, 6, none⟩ = some (.slice bl q cb) ∧ W.cell? ⟨w.heap.size, 7, none⟩ = some (.slice pl p cp)) := fun W hW => by
    have := (hW.block w.heap.size (by omega)).trans TA.out
    exact ⟨(cells8 this).2.2.2.2.2.2.1, (cells8 this).2.2.2.2.2.2.2.1⟩
  have hS : (w.alloc (.cells (CC sl rs.length cap tl m kap top pr st bu bl q cb pl p cp) 30)).heap.size = w.heap.size + 1 := by simp
  clear hz TA
  rcases lft_cases M0 (rs.length + totD rs + m) (by omega) with ⟨e, h⟩ | ⟨e, h⟩
  · rw [e] at E1
    have F := Lib.hid (show lft M0 (rs.length + totD rs + m + q + p) = -1 by rw [Nat.add_assoc _ q p]; exact lft_neg _ _ _ h)
    rw [F.out]
    clear F e h KC
    generalize rs.length = n at *
    go_enter Tryz.func30, Tryz.ntmps30
    go_wp2_with fail
    refine E1.out.mono ?_
    rintro e w1 ⟨rfl, b1⟩
    have D1 := Lib.hid (bT B0.out b1)
    clear b1
    go_wp2
    go_ret
    exact ⟨rfl, D1.out⟩
  rw [e] at E1
  have hneg : ¬ (M0 - ((rs.length + totD rs + m : Nat) : Int)) < 0 := by omega
  have E2 := Lib.hid (fun W => szB_any bl q cb (M0 - ((rs.length + totD rs + m : Nat) : Int)) W hq (by omega) (by omega))
  rw [Nat.add_assoc _ q p, ← lft_add M0 (rs.length + totD rs + m) (q + p) h]
  clear e
  have hz1 : (M0 - ((rs.length + totD rs + m : Nat) : Int)) ≤ M0 := by omega
  generalize (M0 - ((rs.length + totD rs + m : Nat) : Int)) = z at *
  rcases lft_cases z q (by omega) with ⟨e2, h2⟩ | ⟨e2, h2⟩
  · rw [e2] at E2
    rw [lft_neg z q p h2]
    clear e2 h h2
    generalize rs.length = n at *
    go_enter Tryz.func30, Tryz.ntmps30
    go_wp2_with fail
    refine E1.out.mono ?_
    rintro e w1 ⟨rfl, b1⟩
    have D1 := Lib.hid (bT B0.out b1)
    obtain ⟨c6, c7⟩ := KC.out _ (by rw [← hS]; exact b1)
    clear b1
    go_wp2_with fail
    refine (E2.out _).mono ?_
    rintro e w2 ⟨rfl, b2⟩
    have D2 := Lib.hid (bT D1.out b2)
    clear b2
    go_wp2
    go_ret
    exact ⟨rfl, D2.out⟩
  rw [e2] at E2
  rw [← lft_add z q p h2]
  have E3 := Lib.hid (fun W => szPl_any pl p cp (z - (q : Int)) W hp (by omega) (by omega))
  have hneg2 : ¬ (z - (q : Int)) < 0 := by omega
  have LC := lft_cases (z - (q : Int)) p (by omega)
  clear h h2 e2 hz1
  generalize (z - (q : Int)) = y at *
  generalize lft y p = x at *
  generalize rs.length = n at *
  go_enter Tryz.func30, Tryz.ntmps30
  go_wp2_with fail
  refine E1.out.mono ?_
  rintro e w1 ⟨rfl, b1⟩
  have D1 := Lib.hid (bT B0.out b1)
  have A1 := Lib.hid b1
  obtain ⟨c6, c7⟩ := KC.out _ (by rw [← hS]; exact b1)
  clear b1
  go_wp2_with fail
  refine (E2.out _).mono ?_
  rintro e w2 ⟨rfl, b2⟩
  have D2 := Lib.hid (bT D1.out b2)
  clear c6 c7
  obtain ⟨c6, c7⟩ := KC.out w2 (by rw [← hS]; exact bT A1.out b2)
  clear b2 A1
  go_wp2_with fail
  refine (E3.out _).mono ?_
  rintro e w3 ⟨rfl, rfl⟩
  rcases LC with ⟨rfl, h9⟩ | ⟨hz9, h9⟩
  · go_wp2
    go_ret
    exact ⟨rfl, D2.out⟩
  · have hz0 : ¬ x < 0 := by omega
    clear hz9
    go_wp2
    go_ret
    exact ⟨rfl, D2.out⟩

set_option maxRecDepth 100000 in
set_option maxHeartbeats 2000000 in
/-- szStage. -/
theorem szSgM_any (M0 : Int) (hM0 : 0 ≤ M0) (hM1 : M0 ≤ 1048576) (sl : Option Addr) (cap : Nat) (tl : Option Addr) (m kap : Nat) (top pr st bu : Int) (bl : Option Addr) (q cb : Nat) (pl : Option Addr) (p cp : Nat) (ul : Option Addr) (u cu : Nat) (ai fx : Int) (gc gf : Bool) (rs : List LSt) (w : World) (hn : rs.length ≤ maxLen) (hm : m ≤ maxLen) (hq : q ≤ maxLen) (hp : p ≤ maxLen) (hu : u ≤ maxLen) (hz : Sts0 w sl rs) :
    Calls Tryz.prog 11 #[SgV sl rs.length cap tl m kap top pr st bu bl q cb pl p cp ul u cu ai fx gc gf, .int .i64 M0] w fun e w' => e = .returned (.int .i64 (lft M0 (rs.length + totD rs + m + q + p + u))) ∧ Below w.heap.size w w' := by
  have E1 := Lib.hid (szCM_any M0 hM0 hM1 sl cap tl m kap top pr st bu bl q cb pl p cp rs (w.alloc (.cells (SgC sl rs.length cap tl m kap top pr st bu bl q cb pl p cp ul u cu ai fx gc gf) 32)) hn hm hq hp (hz.below (bA0 _ _)))
  have B0 := Lib.hid (bA0 w (.cells (SgC sl rs.length cap tl m kap top pr st bu bl q cb pl p cp ul u cu ai fx gc gf) 32))
  have TA := Lib.hid (show (w.alloc (.cells (SgC sl rs.length cap tl m kap top pr st bu bl q cb pl p cp ul u cu ai fx gc gf) 32)).heap[w.heap.size]? = some (.cells (SgC sl rs.length cap tl m kap top pr st bu bl q cb pl p cp ul u cu ai fx gc gf) 32) from new_at _ _)
  have KC : Hid (∀ W, Below (w.heap.size + 1) (w.alloc (.cells (SgC sl rs.length cap tl m kap top pr st bu bl q cb pl p cp ul u cu ai fx gc gf) 32)) W → W.cell? ⟨w.heap.size, 8, none⟩ = some (.slice ul u cu)) := fun W hW => by
    have := (hW.block w.heap.size (by omega)).trans TA.out
    exact (cells13 this).2.2.2.2.2.2.2.2.1
  have hS : (w.alloc (.cells (SgC sl rs.length cap tl m kap top pr st bu bl q cb pl p cp ul u cu ai fx gc gf) 32)).heap.size = w.heap.size + 1 := by simp
  clear hz TA
  rcases lft_cases M0 (rs.length + totD rs + m + q + p) (by omega) with ⟨e, h⟩ | ⟨e, h⟩
  · rw [e] at E1
    have F := Lib.hid (show lft M0 (rs.length + totD rs + m + q + p + u) = -1 from lft_neg _ _ _ h)
    rw [F.out]
    clear F e h KC
    generalize rs.length = n at *
    go_enter Tryz.func11, Tryz.ntmps11
    go_wp2_with fail
    refine E1.out.mono ?_
    rintro e w1 ⟨rfl, b1⟩
    have D1 := Lib.hid (bT B0.out b1)
    clear b1
    go_wp2
    go_ret
    exact ⟨rfl, D1.out⟩
  rw [e] at E1
  have hneg : ¬ (M0 - ((rs.length + totD rs + m + q + p : Nat) : Int)) < 0 := by omega
  have E2 := Lib.hid (fun W => szI_any ul u cu (M0 - ((rs.length + totD rs + m + q + p : Nat) : Int)) W hu (by omega) (by omega))
  rw [← lft_add M0 (rs.length + totD rs + m + q + p) u h]
  have LC := lft_cases (M0 - ((rs.length + totD rs + m + q + p : Nat) : Int)) u (by omega)
  clear e h
  generalize (M0 - ((rs.length + totD rs + m + q + p : Nat) : Int)) = z at *
  generalize lft z u = x at *
  generalize rs.length = n at *
  go_enter Tryz.func11, Tryz.ntmps11
  go_wp2_with fail
  refine E1.out.mono ?_
  rintro e w1 ⟨rfl, b1⟩
  have D1 := Lib.hid (bT B0.out b1)
  have c8 := KC.out _ (by rw [← hS]; exact b1)
  clear b1
  go_wp2_with fail
  refine (E2.out _).mono ?_
  rintro e w2 ⟨rfl, b2⟩
  have D2 := Lib.hid (bT D1.out b2)
  clear b2 c8
  rcases LC with ⟨rfl, h9⟩ | ⟨hz9, h9⟩
  · go_wp2
    go_ret
    exact ⟨rfl, D2.out⟩
  · have hz0 : ¬ x < 0 := by omega
    clear hz9
    go_wp2
    go_ret
    exact ⟨rfl, D2.out⟩

/-- An engine's cells. -/
abbrev EnC (sa : Option Addr) (na ca : Nat) (ta : Option Addr) (ma ka : Nat) (xl : Option Addr) (x cx : Nat) (op : Bool) (sl : Option Addr) (n cap : Nat) (tl : Option Addr) (m kap : Nat) (top pr st bu : Int) (bl : Option Addr) (q cb : Nat) (pl : Option Addr) (p cp : Nat) (ul : Option Addr) (u cu : Nat) (ai fx : Int) (gc gf : Bool) : Array Value :=
  #[.slice sa na ca, .slice ta ma ka, .slice xl x cx, .bool op, .slice sl n cap, .slice tl m kap, .int .i64 top, .int .i64 pr, .int .i64 st, .int .i64 bu, .slice bl q cb, .slice pl p cp, .slice ul u cu, .int .i64 ai, .int .i64 fx, .bool gc, .bool gf]
/-- An engine. -/
abbrev EnV (sa : Option Addr) (na ca : Nat) (ta : Option Addr) (ma ka : Nat) (xl : Option Addr) (x cx : Nat) (op : Bool) (sl : Option Addr) (n cap : Nat) (tl : Option Addr) (m kap : Nat) (top pr st bu : Int) (bl : Option Addr) (q cb : Nat) (pl : Option Addr) (p cp : Nat) (ul : Option Addr) (u cu : Nat) (ai fx : Int) (gc gf : Bool) : Value :=
  .agg #[.slice sa na ca, .slice ta ma ka, .slice xl x cx, .bool op, .slice sl n cap, .slice tl m kap, .int .i64 top, .int .i64 pr, .int .i64 st, .int .i64 bu, .slice bl q cb, .slice pl p cp, .slice ul u cu, .int .i64 ai, .int .i64 fx, .bool gc, .bool gf]
theorem cells17 {w : World} {b : Nat} {t : TypeId} {a0 a1 a2 a3 a4 a5 a6 a7 a8 a9 a10 a11 a12 a13 a14 a15 a16 : Value} (h : w.heap[b]? = some (.cells #[a0, a1, a2, a3, a4, a5, a6, a7, a8, a9, a10, a11, a12, a13, a14, a15, a16] t)) :
    w.cell? ⟨b, 0, none⟩ = some a0 ∧ w.cell? ⟨b, 1, none⟩ = some a1 ∧ w.cell? ⟨b, 2, none⟩ = some a2 ∧ w.cell? ⟨b, 3, none⟩ = some a3 ∧ w.cell? ⟨b, 4, none⟩ = some a4 ∧ w.cell? ⟨b, 5, none⟩ = some a5 ∧ w.cell? ⟨b, 6, none⟩ = some a6 ∧ w.cell? ⟨b, 7, none⟩ = some a7 ∧ w.cell? ⟨b, 8, none⟩ = some a8 ∧ w.cell? ⟨b, 9, none⟩ = some a9 ∧ w.cell? ⟨b, 10, none⟩ = some a10 ∧ w.cell? ⟨b, 11, none⟩ = some a11 ∧ w.cell? ⟨b, 12, none⟩ = some a12 ∧ w.cell? ⟨b, 13, none⟩ = some a13 ∧ w.cell? ⟨b, 14, none⟩ = some a14 ∧ w.cell? ⟨b, 15, none⟩ = some a15 ∧ w.cell? ⟨b, 16, none⟩ = some a16 ∧ (∀ o, w.frozen? ⟨b, o, none⟩ = false) ∧ b < w.heap.size := by
  refine ⟨?_, ?_, ?_, ?_, ?_, ?_, ?_, ?_, ?_, ?_, ?_, ?_, ?_, ?_, ?_, ?_, ?_, fun o => ?_, (Array.getElem?_eq_some_iff.1 h).1⟩ <;> simp [World.cell?, World.frozen?, h]

set_option maxRecDepth 100000 in
set_option maxHeartbeats 2000000 in
/-- szEngine. -/
theorem szE_any (sa : Option Addr) (ca : Nat) (ta : Option Addr) (ma ka : Nat) (xl : Option Addr) (x cx : Nat) (op : Bool) (sl : Option Addr) (cap : Nat) (tl : Option Addr) (m kap : Nat) (top pr st bu : Int) (bl : Option Addr) (q cb : Nat) (pl : Option Addr) (p cp : Nat) (ul : Option Addr) (u cu : Nat) (ai fx : Int) (gc gf : Bool) (ra rs : List LSt) (w : World) (hna : ra.length ≤ maxLen) (hma : ma ≤ maxLen) (hx : x ≤ maxLen) (hn : rs.length ≤ maxLen) (hm : m ≤ maxLen) (hq : q ≤ maxLen) (hp : p ≤ maxLen) (hu : u ≤ maxLen) (hza : Sts0 w sa ra) (hz : Sts0 w sl rs) :
    Calls Tryz.prog 4 #[EnV sa ra.length ca ta ma ka xl x cx op sl rs.length cap tl m kap top pr st bu bl q cb pl p cp ul u cu ai fx gc gf, .int .i64 1048576] w fun e w' => e = .returned (.int .i64 (lft 1048576 (ra.length + totD ra + ma + x + (rs.length + totD rs + m + q + p + u)))) ∧ Below w.heap.size w w' := by
  have E1 := Lib.hid (szTab_any sa ca ta ma ka ra (w.alloc (.cells (EnC sa ra.length ca ta ma ka xl x cx op sl rs.length cap tl m kap top pr st bu bl q cb pl p cp ul u cu ai fx gc gf) 34)) hna hma (hza.below (bA0 _ _)))
  have B0 := Lib.hid (bA0 w (.cells (EnC sa ra.length ca ta ma ka xl x cx op sl rs.length cap tl m kap top pr st bu bl q cb pl p cp ul u cu ai fx gc gf) 34))
  have TA := Lib.hid (show (w.alloc (.cells (EnC sa ra.length ca ta ma ka xl x cx op sl rs.length cap tl m kap top pr st bu bl q cb pl p cp ul u cu ai fx gc gf) 34)).heap[w.heap.size]? = some (.cells (EnC sa ra.length ca ta ma ka xl x cx op sl rs.length cap tl m kap top pr st bu bl q cb pl p cp ul u cu ai fx gc gf) 34) from new_at _ _)
  have hS : (w.alloc (.cells (EnC sa ra.length ca ta ma ka xl x cx op sl rs.length cap tl m kap top pr st bu bl q cb pl p cp ul u cu ai fx gc gf) 34)).heap.size = w.heap.size + 1 := by simp
  have KC : Hid (∀ W, Below (w.heap.size + 1) (w.alloc (.cells (EnC sa ra.length ca ta ma ka xl x cx op sl rs.length cap tl m kap top pr st bu bl q cb pl p cp ul u cu ai fx gc gf) 34)) W → W.heap[w.heap.size]? = some (.cells (EnC sa ra.length ca ta ma ka xl x cx op sl rs.length cap tl m kap top pr st bu bl q cb pl p cp ul u cu ai fx gc gf) 34)) := fun W hW => (hW.block w.heap.size (by omega)).trans TA.out
  clear hza TA
  rcases lft_cases 1048576 (ra.length + totD ra + ma) (by omega) with ⟨e, h⟩ | ⟨e, h⟩
  · rw [e] at E1
    have F := Lib.hid (show lft 1048576 (ra.length + totD ra + ma + x + (rs.length + totD rs + m + q + p + u)) = -1 by rw [Nat.add_assoc _ x]; exact lft_neg _ _ _ h)
    rw [F.out]
    clear F e h KC hz
    generalize ra.length = na at *
    generalize rs.length = n at *
    go_enter Tryz.func4, Tryz.ntmps4
    go_wp2_with fail
    refine E1.out.mono ?_
    rintro e w1 ⟨rfl, b1⟩
    have D1 := Lib.hid (bT B0.out b1)
    clear b1
    go_wp2
    go_ret
    exact ⟨rfl, D1.out⟩
  rw [e] at E1
  have hneg : ¬ (1048576 - ((ra.length + totD ra + ma : Nat) : Int)) < 0 := by omega
  have E2 := Lib.hid (fun W => szI_any xl x cx (1048576 - ((ra.length + totD ra + ma : Nat) : Int)) W hx (by omega) (by omega))
  rw [Nat.add_assoc _ x, ← lft_add 1048576 (ra.length + totD ra + ma) (x + (rs.length + totD rs + m + q + p + u)) h]
  have hz0 : 0 ≤ (1048576 - ((ra.length + totD ra + ma : Nat) : Int)) := by omega
  have hz1 : (1048576 - ((ra.length + totD ra + ma : Nat) : Int)) ≤ 1048576 := by omega
  clear e h
  generalize (1048576 - ((ra.length + totD ra + ma : Nat) : Int)) = z at *
  rcases lft_cases z x hz0 with ⟨e, h⟩ | ⟨e, h⟩
  · rw [e] at E2
    have F := Lib.hid (show lft z (x + (rs.length + totD rs + m + q + p + u)) = -1 from lft_neg _ _ _ h)
    rw [F.out]
    clear F e h hz hz0 hz1
    generalize ra.length = na at *
    generalize rs.length = n at *
    go_enter Tryz.func4, Tryz.ntmps4
    go_wp2_with fail
    refine E1.out.mono ?_
    rintro e w1 ⟨rfl, b1⟩
    have D1 := Lib.hid (bT B0.out b1)
    have m1 := KC.out w1 (by rw [← hS]; exact b1)
    obtain ⟨c0, c1, c2, c3, c4, c5, c6, c7, c8, c9, c10, c11, c12, c13, c14, c15, c16, cf, cl⟩ := cells17 m1
    clear b1 m1
    go_wp2_with fail
    refine (E2.out _).mono ?_
    rintro e w2 ⟨rfl, b2⟩
    have D2 := Lib.hid (bT D1.out b2)
    clear b2
    go_wp2
    go_ret
    exact ⟨rfl, D2.out⟩
  rw [e] at E2
  have hneg2 : ¬ (z - (x : Int)) < 0 := by omega
  have hz2 : 0 ≤ z - (x : Int) := by omega
  have hz3 : z - (x : Int) ≤ 1048576 := by omega
  rw [← lft_add z x (rs.length + totD rs + m + q + p + u) h]
  clear e h
  generalize z - (x : Int) = y at *
  have E3 := Lib.hid (fun W (hW : Below w.heap.size w W) => szSgM_any y hz2 hz3 sl cap tl m kap top pr st bu bl q cb pl p cp ul u cu ai fx gc gf rs W hn hm hq hp hu (hz.below hW))
  have LC := lft_cases y (rs.length + totD rs + m + q + p + u) hz2
  clear hz hz0 hz1 hz2 hz3
  generalize lft y (rs.length + totD rs + m + q + p + u) = r at *
  generalize ra.length = na at *
  generalize rs.length = n at *
  go_enter Tryz.func4, Tryz.ntmps4
  go_wp2_with fail
  refine E1.out.mono ?_
  rintro e w1 ⟨rfl, b1⟩
  have D1 := Lib.hid (bT B0.out b1)
  have A1 := Lib.hid (show Below (w.heap.size + 1) _ w1 by rw [← hS]; exact b1)
  obtain ⟨c0, c1, c2, c3, c4, c5, c6, c7, c8, c9, c10, c11, c12, c13, c14, c15, c16, cf, cl⟩ := cells17 (KC.out w1 A1.out)
  clear b1
  go_wp2_with fail
  refine (E2.out _).mono ?_
  rintro e w2 ⟨rfl, b2⟩
  have hs1 := A1.out.size
  have D2 := Lib.hid (bT D1.out b2)
  have A2 := Lib.hid (A1.out.trans (b2.mono (by omega)))
  clear c0 c1 c2 c3 c4 c5 c6 c7 c8 c9 c10 c11 c12 c13 c14 c15 c16 cf cl
  obtain ⟨c0, c1, c2, c3, c4, c5, c6, c7, c8, c9, c10, c11, c12, c13, c14, c15, c16, cf, cl⟩ := cells17 (KC.out w2 A2.out)
  clear b2 hs1
  go_wp2_with fail
  refine (E3.out _ D2.out).mono ?_
  rintro e w3 ⟨rfl, b3⟩
  have D3 := Lib.hid (bT D2.out b3)
  clear b3 c0 c1 c2 c3 c4 c5 c6 c7 c8 c9 c10 c11 c12 c13 c14 c15 c16 cf cl
  rcases LC with ⟨rfl, h9⟩ | ⟨hz9, h9⟩
  · go_wp2
    go_ret
    exact ⟨rfl, D3.out⟩
  · have hz0 : ¬ r < 0 := by omega
    clear hz9
    go_wp2
    go_ret
    exact ⟨rfl, D3.out⟩

set_option maxRecDepth 100000 in
set_option maxHeartbeats 2000000 in
/-- eqEngine. -/
theorem eqE_any (sa sa' : Option Addr) (ca ca' : Nat) (ta ta' : Option Addr) (ka ka' : Nat) (xl xl' : Option Addr) (cx cx' : Nat) (op : Bool) (sl sl' : Option Addr) (cap cap' : Nat) (tl tl' : Option Addr) (kap kap' : Nat) (top pr st bu : Int) (bl bl' : Option Addr) (cb cb' : Nat) (pl pl' : Option Addr) (cp cp' : Nat) (ul ul' : Option Addr) (cu cu' : Nat) (ai fx : Int) (gc gf : Bool) (ra ra' : List LSt) (qa : List LPr) (zs : List Int) (rs rs' : List LSt) (ps : List LPr) (bs : List LPr) (ls : List LPl) (us : List Int) (w : World) (hna : ra.length ≤ 1048576) (hma : qa.length ≤ 1048576) (hx : zs.length ≤ 1048576) (hn : rs.length ≤ 1048576) (hm : ps.length ≤ 1048576) (hq : bs.length ≤ 1048576) (hl : ls.length ≤ 1048576) (hu : us.length ≤ 1048576) (hba : bareS ra = bareS ra') (hb : bareS rs = bareS rs') (ga : Sts w sa ra) (ga' : Sts w sa' ra') (gp : Prs w ta qa) (gp' : Prs w ta' qa) (gx : Ints w xl zs) (gx' : Ints w xl' zs) (h : Sts w sl rs) (h' : Sts w sl' rs') (hp : Prs w tl ps) (hp' : Prs w tl' ps) (hbs : Prs w bl bs) (hbs' : Prs w bl' bs) (hls : Pls w pl ls) (hls' : Pls w pl' ls) (hus : Ints w ul us) (hus' : Ints w ul' us) :
    Calls Tryz.prog 8 #[EnV sa ra.length ca ta qa.length ka xl zs.length cx op sl rs.length cap tl ps.length kap top pr st bu bl bs.length cb pl ls.length cp ul us.length cu ai fx gc gf, EnV sa' ra'.length ca' ta' qa.length ka' xl' zs.length cx' op sl' rs'.length cap' tl' ps.length kap' top pr st bu bl' bs.length cb' pl' ls.length cp' ul' us.length cu' ai fx gc gf] w fun e w' => e = .returned (.bool true) ∧ Below w.heap.size w w' := by
  have E1 : Hid (∀ W, Below w.heap.size w W → Calls Tryz.prog 25 #[TV sa ra.length ca ta qa.length ka, TV sa' ra'.length ca' ta' qa.length ka'] W fun e w' => e = .returned (.bool true) ∧ Below W.heap.size W w') := fun W hW => eqT_any sa sa' ca ca' ta ta' ka ka' ra ra' qa W hna hma hba (ga.below hW) (ga'.below hW) (gp.below hW) (gp'.below hW)
  have E2 : Hid (∀ W, Below w.heap.size w W → Calls Tryz.prog 26 #[.slice xl zs.length cx, .slice xl' zs.length cx'] W fun e w' => e = .returned (.bool true) ∧ Below W.heap.size W w') := fun W hW => eq_any xl xl' cx cx' zs W (by unfold maxLen; omega) (gx.below hW) (gx'.below hW)
  have E3 : Hid (∀ W, Below w.heap.size w W → Calls Tryz.prog 27 #[SgV sl rs.length cap tl ps.length kap top pr st bu bl bs.length cb pl ls.length cp ul us.length cu ai fx gc gf, SgV sl' rs'.length cap' tl' ps.length kap' top pr st bu bl' bs.length cb' pl' ls.length cp' ul' us.length cu' ai fx gc gf] W fun e w' => e = .returned (.bool true) ∧ Below W.heap.size W w') := fun W hW => eqSg_any sl sl' cap cap' tl tl' kap kap' top pr st bu bl bl' cb cb' pl pl' cp cp' ul ul' cu cu' ai fx gc gf rs rs' ps bs ls us W hn hm hq hl hu hb (h.below hW) (h'.below hW) (hp.below hW) (hp'.below hW) (hbs.below hW) (hbs'.below hW) (hls.below hW) (hls'.below hW) (hus.below hW) (hus'.below hW)
  clear h h' hp hp' hb hbs hbs' hls hls' hus hus' ga ga' gp gp' gx gx' hba
  have hop : (op != op) = false := by cases op <;> rfl
  generalize ra.length = na at *
  generalize ra'.length = na' at *
  generalize qa.length = ma at *
  generalize zs.length = x at *
  generalize rs.length = n at *
  generalize rs'.length = n' at *
  generalize ps.length = m at *
  generalize bs.length = q at *
  generalize ls.length = p at *
  generalize us.length = u at *
  go_enter Tryz.func8, Tryz.ntmps8
  go_wp2_with fail
  refine (E1.out _ (bA (bA0 _ _) _)).mono ?_
  rintro e w1 ⟨rfl, b1⟩
  have D1 := Lib.hid (bT (bA (bA0 w _) _) b1)
  have A1 := Lib.hid b1
  obtain ⟨hc, hf⟩ := bcell b1
  clear b1
  go_wp2_with fail
  refine (E2.out _ D1.out).mono ?_
  rintro e w2 ⟨rfl, b2⟩
  have D2 := Lib.hid (bT D1.out b2)
  have A2 := Lib.hid (bT A1.out b2)
  clear hc hf
  obtain ⟨hc, hf⟩ := bcell A2.out
  clear b2 A1
  go_wp2_with fail
  refine (E3.out _ D2.out).mono ?_
  rintro e w3 ⟨rfl, b3⟩
  have D3 := Lib.hid (bT D2.out b3)
  have A3 := Lib.hid (bT A2.out b3)
  clear hc hf
  obtain ⟨hc, hf⟩ := bcell A3.out
  clear b3 A2
  go_wp2
  go_ret
  exact ⟨rfl, D3.out⟩

theorem setT_other {w : World} {b c : Nat} (hc : c ≠ b) (y4 y5 y6 y7 y8 y9 y10 y11 y12 y13 y14 y15 y16 : Value) :
    (((((((((((((w.setCell ⟨b, 4, none⟩ y4).setCell ⟨b, 5, none⟩ y5).setCell ⟨b, 6, none⟩ y6).setCell ⟨b, 7, none⟩ y7).setCell ⟨b, 8, none⟩ y8).setCell ⟨b, 9, none⟩ y9).setCell ⟨b, 10, none⟩ y10).setCell ⟨b, 11, none⟩ y11).setCell ⟨b, 12, none⟩ y12).setCell ⟨b, 13, none⟩ y13).setCell ⟨b, 14, none⟩ y14).setCell ⟨b, 15, none⟩ y15).setCell ⟨b, 16, none⟩ y16).heap[c]? = w.heap[c]? := by
  rw [Below.heap_setCell _ _ _ _ hc, Below.heap_setCell _ _ _ _ hc, Below.heap_setCell _ _ _ _ hc, Below.heap_setCell _ _ _ _ hc, Below.heap_setCell _ _ _ _ hc, Below.heap_setCell _ _ _ _ hc, Below.heap_setCell _ _ _ _ hc, Below.heap_setCell _ _ _ _ hc, Below.heap_setCell _ _ _ _ hc, Below.heap_setCell _ _ _ _ hc, Below.heap_setCell _ _ _ _ hc, Below.heap_setCell _ _ _ _ hc, Below.heap_setCell _ _ _ _ hc]
theorem setT_below {C : Nat} {v w : World} (h : Below C v w) {b : Nat} (hc : C ≤ b) (y4 y5 y6 y7 y8 y9 y10 y11 y12 y13 y14 y15 y16 : Value) :
    Below C v (((((((((((((w.setCell ⟨b, 4, none⟩ y4).setCell ⟨b, 5, none⟩ y5).setCell ⟨b, 6, none⟩ y6).setCell ⟨b, 7, none⟩ y7).setCell ⟨b, 8, none⟩ y8).setCell ⟨b, 9, none⟩ y9).setCell ⟨b, 10, none⟩ y10).setCell ⟨b, 11, none⟩ y11).setCell ⟨b, 12, none⟩ y12).setCell ⟨b, 13, none⟩ y13).setCell ⟨b, 14, none⟩ y14).setCell ⟨b, 15, none⟩ y15).setCell ⟨b, 16, none⟩ y16) :=
  (((((((((((((h.setCell (p := ⟨b, 4, none⟩) hc y4).setCell (p := ⟨b, 5, none⟩) hc y5).setCell (p := ⟨b, 6, none⟩) hc y6).setCell (p := ⟨b, 7, none⟩) hc y7).setCell (p := ⟨b, 8, none⟩) hc y8).setCell (p := ⟨b, 9, none⟩) hc y9).setCell (p := ⟨b, 10, none⟩) hc y10).setCell (p := ⟨b, 11, none⟩) hc y11).setCell (p := ⟨b, 12, none⟩) hc y12).setCell (p := ⟨b, 13, none⟩) hc y13).setCell (p := ⟨b, 14, none⟩) hc y14).setCell (p := ⟨b, 15, none⟩) hc y15).setCell (p := ⟨b, 16, none⟩) hc y16)
theorem setT_size {w : World} {b : Nat} (y4 y5 y6 y7 y8 y9 y10 y11 y12 y13 y14 y15 y16 : Value) : (((((((((((((w.setCell ⟨b, 4, none⟩ y4).setCell ⟨b, 5, none⟩ y5).setCell ⟨b, 6, none⟩ y6).setCell ⟨b, 7, none⟩ y7).setCell ⟨b, 8, none⟩ y8).setCell ⟨b, 9, none⟩ y9).setCell ⟨b, 10, none⟩ y10).setCell ⟨b, 11, none⟩ y11).setCell ⟨b, 12, none⟩ y12).setCell ⟨b, 13, none⟩ y13).setCell ⟨b, 14, none⟩ y14).setCell ⟨b, 15, none⟩ y15).setCell ⟨b, 16, none⟩ y16).heap.size = w.heap.size := by simp [World.setCell]
set_option maxRecDepth 100000 in
set_option maxHeartbeats 4000000 in
theorem setT_same {w : World} {b : Nat} {t : TypeId} {a0 a1 a2 a3 a4 a5 a6 a7 a8 a9 a10 a11 a12 a13 a14 a15 a16 : Value} (h : w.heap[b]? = some (.cells #[a0, a1, a2, a3, a4, a5, a6, a7, a8, a9, a10, a11, a12, a13, a14, a15, a16] t)) (y4 y5 y6 y7 y8 y9 y10 y11 y12 y13 y14 y15 y16 : Value) :
    (((((((((((((w.setCell ⟨b, 4, none⟩ y4).setCell ⟨b, 5, none⟩ y5).setCell ⟨b, 6, none⟩ y6).setCell ⟨b, 7, none⟩ y7).setCell ⟨b, 8, none⟩ y8).setCell ⟨b, 9, none⟩ y9).setCell ⟨b, 10, none⟩ y10).setCell ⟨b, 11, none⟩ y11).setCell ⟨b, 12, none⟩ y12).setCell ⟨b, 13, none⟩ y13).setCell ⟨b, 14, none⟩ y14).setCell ⟨b, 15, none⟩ y15).setCell ⟨b, 16, none⟩ y16).heap[b]? = some (.cells #[a0, a1, a2, a3, y4, y5, y6, y7, y8, y9, y10, y11, y12, y13, y14, y15, y16] t) := by
  rw [heap_setCell_same _ b _ _ t _ (heap_setCell_same _ b _ _ t _ (heap_setCell_same _ b _ _ t _ (heap_setCell_same _ b _ _ t _ (heap_setCell_same _ b _ _ t _ (heap_setCell_same _ b _ _ t _ (heap_setCell_same _ b _ _ t _ (heap_setCell_same _ b _ _ t _ (heap_setCell_same _ b _ _ t _ (heap_setCell_same _ b _ _ t _ (heap_setCell_same _ b _ _ t _ (heap_setCell_same _ b _ _ t _ (heap_setCell_same _ b _ _ t _ h))))))))))))]
  simp only [List.setIfInBounds_toArray, List.set_cons_zero, List.set_cons_succ]
theorem setU_other {w : World} {b c : Nat} (hc : c ≠ b) (x0 x1 x2 x3 x4 x5 x6 x7 x8 x9 x10 x11 x12 x13 x14 x15 x16 : Value) :
    (((((((((((((((((w.setCell ⟨b, 0, none⟩ x0).setCell ⟨b, 1, none⟩ x1).setCell ⟨b, 2, none⟩ x2).setCell ⟨b, 3, none⟩ x3).setCell ⟨b, 4, none⟩ x4).setCell ⟨b, 5, none⟩ x5).setCell ⟨b, 6, none⟩ x6).setCell ⟨b, 7, none⟩ x7).setCell ⟨b, 8, none⟩ x8).setCell ⟨b, 9, none⟩ x9).setCell ⟨b, 10, none⟩ x10).setCell ⟨b, 11, none⟩ x11).setCell ⟨b, 12, none⟩ x12).setCell ⟨b, 13, none⟩ x13).setCell ⟨b, 14, none⟩ x14).setCell ⟨b, 15, none⟩ x15).setCell ⟨b, 16, none⟩ x16).heap[c]? = w.heap[c]? := by
  rw [Below.heap_setCell _ _ _ _ hc, Below.heap_setCell _ _ _ _ hc, Below.heap_setCell _ _ _ _ hc, Below.heap_setCell _ _ _ _ hc, Below.heap_setCell _ _ _ _ hc, Below.heap_setCell _ _ _ _ hc, Below.heap_setCell _ _ _ _ hc, Below.heap_setCell _ _ _ _ hc, Below.heap_setCell _ _ _ _ hc, Below.heap_setCell _ _ _ _ hc, Below.heap_setCell _ _ _ _ hc, Below.heap_setCell _ _ _ _ hc, Below.heap_setCell _ _ _ _ hc, Below.heap_setCell _ _ _ _ hc, Below.heap_setCell _ _ _ _ hc, Below.heap_setCell _ _ _ _ hc, Below.heap_setCell _ _ _ _ hc]
theorem setU_below {C : Nat} {v w : World} (h : Below C v w) {b : Nat} (hc : C ≤ b) (x0 x1 x2 x3 x4 x5 x6 x7 x8 x9 x10 x11 x12 x13 x14 x15 x16 : Value) :
    Below C v (((((((((((((((((w.setCell ⟨b, 0, none⟩ x0).setCell ⟨b, 1, none⟩ x1).setCell ⟨b, 2, none⟩ x2).setCell ⟨b, 3, none⟩ x3).setCell ⟨b, 4, none⟩ x4).setCell ⟨b, 5, none⟩ x5).setCell ⟨b, 6, none⟩ x6).setCell ⟨b, 7, none⟩ x7).setCell ⟨b, 8, none⟩ x8).setCell ⟨b, 9, none⟩ x9).setCell ⟨b, 10, none⟩ x10).setCell ⟨b, 11, none⟩ x11).setCell ⟨b, 12, none⟩ x12).setCell ⟨b, 13, none⟩ x13).setCell ⟨b, 14, none⟩ x14).setCell ⟨b, 15, none⟩ x15).setCell ⟨b, 16, none⟩ x16) :=
  (((((((((((((((((h.setCell (p := ⟨b, 0, none⟩) hc x0).setCell (p := ⟨b, 1, none⟩) hc x1).setCell (p := ⟨b, 2, none⟩) hc x2).setCell (p := ⟨b, 3, none⟩) hc x3).setCell (p := ⟨b, 4, none⟩) hc x4).setCell (p := ⟨b, 5, none⟩) hc x5).setCell (p := ⟨b, 6, none⟩) hc x6).setCell (p := ⟨b, 7, none⟩) hc x7).setCell (p := ⟨b, 8, none⟩) hc x8).setCell (p := ⟨b, 9, none⟩) hc x9).setCell (p := ⟨b, 10, none⟩) hc x10).setCell (p := ⟨b, 11, none⟩) hc x11).setCell (p := ⟨b, 12, none⟩) hc x12).setCell (p := ⟨b, 13, none⟩) hc x13).setCell (p := ⟨b, 14, none⟩) hc x14).setCell (p := ⟨b, 15, none⟩) hc x15).setCell (p := ⟨b, 16, none⟩) hc x16)
theorem setU_size {w : World} {b : Nat} (x0 x1 x2 x3 x4 x5 x6 x7 x8 x9 x10 x11 x12 x13 x14 x15 x16 : Value) : (((((((((((((((((w.setCell ⟨b, 0, none⟩ x0).setCell ⟨b, 1, none⟩ x1).setCell ⟨b, 2, none⟩ x2).setCell ⟨b, 3, none⟩ x3).setCell ⟨b, 4, none⟩ x4).setCell ⟨b, 5, none⟩ x5).setCell ⟨b, 6, none⟩ x6).setCell ⟨b, 7, none⟩ x7).setCell ⟨b, 8, none⟩ x8).setCell ⟨b, 9, none⟩ x9).setCell ⟨b, 10, none⟩ x10).setCell ⟨b, 11, none⟩ x11).setCell ⟨b, 12, none⟩ x12).setCell ⟨b, 13, none⟩ x13).setCell ⟨b, 14, none⟩ x14).setCell ⟨b, 15, none⟩ x15).setCell ⟨b, 16, none⟩ x16).heap.size = w.heap.size := by simp [World.setCell]
set_option maxRecDepth 100000 in
set_option maxHeartbeats 4000000 in
theorem setU_same {w : World} {b : Nat} {t : TypeId} {a0 a1 a2 a3 a4 a5 a6 a7 a8 a9 a10 a11 a12 a13 a14 a15 a16 : Value} (h : w.heap[b]? = some (.cells #[a0, a1, a2, a3, a4, a5, a6, a7, a8, a9, a10, a11, a12, a13, a14, a15, a16] t)) (x0 x1 x2 x3 x4 x5 x6 x7 x8 x9 x10 x11 x12 x13 x14 x15 x16 : Value) :
    (((((((((((((((((w.setCell ⟨b, 0, none⟩ x0).setCell ⟨b, 1, none⟩ x1).setCell ⟨b, 2, none⟩ x2).setCell ⟨b, 3, none⟩ x3).setCell ⟨b, 4, none⟩ x4).setCell ⟨b, 5, none⟩ x5).setCell ⟨b, 6, none⟩ x6).setCell ⟨b, 7, none⟩ x7).setCell ⟨b, 8, none⟩ x8).setCell ⟨b, 9, none⟩ x9).setCell ⟨b, 10, none⟩ x10).setCell ⟨b, 11, none⟩ x11).setCell ⟨b, 12, none⟩ x12).setCell ⟨b, 13, none⟩ x13).setCell ⟨b, 14, none⟩ x14).setCell ⟨b, 15, none⟩ x15).setCell ⟨b, 16, none⟩ x16).heap[b]? = some (.cells #[x0, x1, x2, x3, x4, x5, x6, x7, x8, x9, x10, x11, x12, x13, x14, x15, x16] t) := by
  rw [heap_setCell_same _ b _ _ t _ (heap_setCell_same _ b _ _ t _ (heap_setCell_same _ b _ _ t _ (heap_setCell_same _ b _ _ t _ (heap_setCell_same _ b _ _ t _ (heap_setCell_same _ b _ _ t _ (heap_setCell_same _ b _ _ t _ (heap_setCell_same _ b _ _ t _ (heap_setCell_same _ b _ _ t _ (heap_setCell_same _ b _ _ t _ (heap_setCell_same _ b _ _ t _ (heap_setCell_same _ b _ _ t _ (heap_setCell_same _ b _ _ t _ (heap_setCell_same _ b _ _ t _ (heap_setCell_same _ b _ _ t _ (heap_setCell_same _ b _ _ t _ (heap_setCell_same _ b _ _ t _ h))))))))))))))))]
  simp only [List.setIfInBounds_toArray, List.set_cons_zero, List.set_cons_succ]
theorem set01 {w : World} {b : Nat} {t : TypeId} {a0 a1 a2 a3 a4 a5 a6 a7 a8 a9 a10 a11 a12 a13 a14 a15 a16 : Value} (h : w.heap[b]? = some (.cells #[a0, a1, a2, a3, a4, a5, a6, a7, a8, a9, a10, a11, a12, a13, a14, a15, a16] t)) (x0 x1 : Value) :
    ((w.setCell ⟨b, 0, none⟩ x0).setCell ⟨b, 1, none⟩ x1).heap[b]? = some (.cells #[x0, x1, a2, a3, a4, a5, a6, a7, a8, a9, a10, a11, a12, a13, a14, a15, a16] t) := by
  rw [heap_setCell_same _ b _ _ t _ (heap_setCell_same _ b _ _ t _ h)]
  rfl
theorem set23 {w : World} {b : Nat} {t : TypeId} {a0 a1 a2 a3 a4 a5 a6 a7 a8 a9 a10 a11 a12 a13 a14 a15 a16 : Value} (h : w.heap[b]? = some (.cells #[a0, a1, a2, a3, a4, a5, a6, a7, a8, a9, a10, a11, a12, a13, a14, a15, a16] t)) (x2 x3 : Value) :
    ((w.setCell ⟨b, 2, none⟩ x2).setCell ⟨b, 3, none⟩ x3).heap[b]? = some (.cells #[a0, a1, x2, x3, a4, a5, a6, a7, a8, a9, a10, a11, a12, a13, a14, a15, a16] t) := by
  rw [heap_setCell_same _ b _ _ t _ (heap_setCell_same _ b _ _ t _ h)]
  rfl
/-- An engine in memory of its own, from block C on. -/
structure OwnE (C : Nat) (w : World) (a1 a2 a3 b1 b2 b3 b4 b5 : Nat) (ra : List LSt) (qa : List LPr) (zs : List Int) (rs : List LSt) (ps : List LPr) (bs : List LPr) (ls : List LPl) (us : List Int) : Prop where
  t : OwnT C w a1 a2 ra qa
  z : RowZ w a3 zs
  s : OwnSg C w b1 b2 b3 b4 b5 rs ps bs ls us
  lz : C ≤ a3
theorem OwnE.below {C : Nat} {w w' : World} {a1 a2 a3 b1 b2 b3 b4 b5 : Nat} {ra : List LSt} {qa : List LPr} {zs : List Int} {rs : List LSt} {ps : List LPr} {bs : List LPr} {ls : List LPl} {us : List Int} (h : OwnE C w a1 a2 a3 b1 b2 b3 b4 b5 ra qa zs rs ps bs ls us) (hb : Below w.heap.size w w') : OwnE C w' a1 a2 a3 b1 b2 b3 b4 b5 ra qa zs rs ps bs ls us := ⟨h.t.below hb, h.z.below hb, h.s.below hb, h.lz⟩
theorem OwnSg.frame {C : Nat} {w w' : World} {b1 b2 b3 b4 b5 : Nat} {rs : List LSt} {ps : List LPr} {bs : List LPr} {ls : List LPl} {us : List Int} (h : OwnSg C w b1 b2 b3 b4 b5 rs ps bs ls us) (hf : ∀ c, C ≤ c → w'.heap[c]? = w.heap[c]?) : OwnSg C w' b1 b2 b3 b4 b5 rs ps bs ls us := ⟨h.c.frame hf, h.r5.frame (hf _ h.lo5), h.lo5⟩
theorem OwnSg.lower {C D : Nat} {w : World} {b1 b2 b3 b4 b5 : Nat} {rs : List LSt} {ps : List LPr} {bs : List LPr} {ls : List LPl} {us : List Int} (h : OwnSg C w b1 b2 b3 b4 b5 rs ps bs ls us) (hd : D ≤ C) : OwnSg D w b1 b2 b3 b4 b5 rs ps bs ls us := ⟨h.c.lower hd, h.r5, Nat.le_trans hd h.lo5⟩
theorem set_size (w : World) (a : Addr) (v : Value) : (w.setCell a v).heap.size = w.heap.size := by simp [World.setCell]

end Go.Proofs.YtdbebcigikbjgaaGreat
namespace Go.Proofs.YtdbebcigikbjgaaGreat
open Go.RowKit
set_option linter.unusedVariables false

set_option maxRecDepth 100000 in
set_option maxHeartbeats 4000000 in
/-- toEngine. -/
theorem toE_any (sa : Option Addr) (ca : Nat) (ta : Option Addr) (ka : Nat) (xl : Option Addr) (cx : Nat) (op : Bool) (sl : Option Addr) (cap : Nat) (tl : Option Addr) (kap : Nat) (top pr st bu : Int) (bl : Option Addr) (cb : Nat) (pl : Option Addr) (cp : Nat) (ul : Option Addr) (cu : Nat) (ai fx : Int) (gc gf : Bool) (ra : List LSt) (qa : List LPr) (zs : List Int) (rs : List LSt) (ps : List LPr) (bs : List LPr) (ls : List LPl) (us : List Int) (w : World) (hna : ra.length ≤ 1048576) (hma : qa.length ≤ 1048576) (hx : zs.length ≤ 1048576) (hn : rs.length ≤ 1048576) (hm : ps.length ≤ 1048576) (hq : bs.length ≤ 1048576) (hl : ls.length ≤ 1048576) (hu : us.length ≤ 1048576) (ga : Sts w sa ra) (gp : Prs w ta qa) (gx : Ints w xl zs) (hz : Sts w sl rs) (hp : Prs w tl ps) (hbs : Prs w bl bs) (hls : Pls w pl ls) (hus : Ints w ul us) :
    Calls Tryz.prog 6 #[EnV sa ra.length ca ta qa.length ka xl zs.length cx op sl rs.length cap tl ps.length kap top pr st bu bl bs.length cb pl ls.length cp ul us.length cu ai fx gc gf] w fun e w' => ∃ a1 a2 a3 b1 b2 b3 b4 b5 ra' rs', e = .returned (EnV (some ⟨a1, 0, none⟩) ra.length ra.length (some ⟨a2, 0, none⟩) qa.length qa.length (some ⟨a3, 0, none⟩) zs.length zs.length op (some ⟨b1, 0, none⟩) rs.length rs.length (some ⟨b2, 0, none⟩) ps.length ps.length top pr st bu (some ⟨b3, 0, none⟩) bs.length bs.length (some ⟨b4, 0, none⟩) ls.length ls.length (some ⟨b5, 0, none⟩) us.length us.length ai fx gc gf) ∧ bareS ra' = bareS ra ∧ bareS rs' = bareS rs ∧ OwnE w.heap.size w' a1 a2 a3 b1 b2 b3 b4 b5 ra' qa zs rs' ps bs ls us ∧ Below w.heap.size w w' := by
  have E1 : Hid (∀ W, Below w.heap.size w W → Calls Tryz.prog 17 #[TV sa ra.length ca ta qa.length ka] W fun e w' => ∃ b1 b2 rs', e = .returned (TV (some ⟨b1, 0, none⟩) ra.length ra.length (some ⟨b2, 0, none⟩) qa.length qa.length) ∧ bareS rs' = bareS ra ∧ OwnT W.heap.size w' b1 b2 rs' qa ∧ Below W.heap.size W w') := fun W hW => toTO_any sa ca ta ka ra qa W hna hma (ga.below hW) (gp.below hW)
  have E2 : Hid (∀ W, Below w.heap.size w W → Calls Tryz.prog 18 #[.slice xl zs.length cx] W fun e w' => e = .returned (.slice (some ⟨W.heap.size, 0, none⟩) zs.length zs.length) ∧ RowZ w' W.heap.size zs ∧ Below W.heap.size W w') := fun W hW => toO_any xl cx zs W hx (gx.below hW)
  have E3 : Hid (∀ W, Below w.heap.size w W → Calls Tryz.prog 19 #[SgV sl rs.length cap tl ps.length kap top pr st bu bl bs.length cb pl ls.length cp ul us.length cu ai fx gc gf] W fun e w' => ∃ b1 b2 b3 b4 b5 rs', e = .returned (SgV (some ⟨b1, 0, none⟩) rs.length rs.length (some ⟨b2, 0, none⟩) ps.length ps.length top pr st bu (some ⟨b3, 0, none⟩) bs.length bs.length (some ⟨b4, 0, none⟩) ls.length ls.length (some ⟨b5, 0, none⟩) us.length us.length ai fx gc gf) ∧ bareS rs' = bareS rs ∧ OwnSg W.heap.size w' b1 b2 b3 b4 b5 rs' ps bs ls us ∧ Below W.heap.size W w') := fun W hW => toSg_any sl cap tl kap top pr st bu bl cb pl cp ul cu ai fx gc gf rs ps bs ls us W hn hm hq hl hu (hz.below hW) (hp.below hW) (hbs.below hW) (hls.below hW) (hus.below hW)
  clear hz hp hbs hls hus ga gp gx
  generalize ra.length = na at *
  generalize qa.length = ma at *
  generalize zs.length = x at *
  generalize rs.length = n at *
  generalize ps.length = m at *
  generalize bs.length = q at *
  generalize ls.length = p at *
  generalize us.length = u at *
  go_enter Tryz.func6, Tryz.ntmps6
  go_wp2_with fail
  refine (E1.out _ (bA (bA (bA0 _ _) _) _)).mono ?_
  rintro e w1 ⟨a1, a2, ra', rfl, ea, t1, bb1⟩
  obtain ⟨n0, n1, n2, n3⟩ := three_new w (.cells (EnC sa na ca ta ma ka xl x cx op sl n cap tl m kap top pr st bu bl q cb pl p cp ul u cu ai fx gc gf) 34) (.cells (EnC none 0 0 none 0 0 none 0 0 false none 0 0 none 0 0 0 0 0 0 none 0 0 none 0 0 none 0 0 0 0 false false) 48) (.cells (EnC none 0 0 none 0 0 none 0 0 false none 0 0 none 0 0 0 0 0 0 none 0 0 none 0 0 none 0 0 0 0 false false) 48)
  have BB := Lib.hid (bT (bA (bA (bA0 w (.cells (EnC sa na ca ta ma ka xl x cx op sl n cap tl m kap top pr st bu bl q cb pl p cp ul u cu ai fx gc gf) 34)) (.cells (EnC none 0 0 none 0 0 none 0 0 false none 0 0 none 0 0 0 0 0 0 none 0 0 none 0 0 none 0 0 0 0 false false) 48)) (.cells (EnC none 0 0 none 0 0 none 0 0 false none 0 0 none 0 0 0 0 0 0 none 0 0 none 0 0 none 0 0 0 0 false false) 48)) bb1)
  rw [n3] at t1 bb1
  have hz := bb1.size
  rw [n3] at hz
  have m0 := (bb1.block w.heap.size (by omega)).trans n0
  have m1 := (bb1.block (w.heap.size + 1) (by omega)).trans n1
  have m2 := (bb1.block (w.heap.size + 1 + 1) (by omega)).trans n2
  have T1 := Lib.hid t1
  have EA := Lib.hid ea
  clear t1 bb1 ea n0 n1 n2 n3
  obtain ⟨c0, c1, c2, c3, c4, c5, c6, c7, c8, c9, c10, c11, c12, c13, c14, c15, c16, cf, cl⟩ := cells17 m0
  obtain ⟨d0, d1, d2, d3, d4, d5, d6, d7, d8, d9, d10, d11, d12, d13, d14, d15, d16, df, dl⟩ := cells17 m2
  have M2 := Lib.hid (set01 m2 (.slice (some ⟨a1, 0, none⟩) na na) (.slice (some ⟨a2, 0, none⟩) ma ma))
  have hle : w.heap.size ≤ w.heap.size + 1 + 1 := by omega
  have BS := Lib.hid ((BB.out.setCell (p := ⟨w.heap.size + 1 + 1, 0, none⟩) hle (.slice (some ⟨a1, 0, none⟩) na na)).setCell (p := ⟨w.heap.size + 1 + 1, 1, none⟩) hle (.slice (some ⟨a2, 0, none⟩) ma ma))
  have O2 := Lib.hid (show ∀ c, c ≠ w.heap.size + 1 + 1 → ((w1.setCell ⟨w.heap.size + 1 + 1, 0, none⟩ (.slice (some ⟨a1, 0, none⟩) na na)).setCell ⟨w.heap.size + 1 + 1, 1, none⟩ (.slice (some ⟨a2, 0, none⟩) ma ma)).heap[c]? = w1.heap[c]? from fun c hc => (Below.heap_setCell _ _ _ _ hc).trans (Below.heap_setCell _ _ _ _ hc))
  have hsz : ((w1.setCell ⟨w.heap.size + 1 + 1, 0, none⟩ (.slice (some ⟨a1, 0, none⟩) na na)).setCell ⟨w.heap.size + 1 + 1, 1, none⟩ (.slice (some ⟨a2, 0, none⟩) ma ma)).heap.size = w1.heap.size := by rw [set_size, set_size]
  have k0 := Lib.hid ((O2.out w.heap.size (by omega)).trans m0)
  have k1 := Lib.hid ((O2.out (w.heap.size + 1) (by omega)).trans m1)
  have T2 := Lib.hid (T1.out.frame (fun c hc => O2.out c (by omega)))
  clear m0 m1 m2 BB hle T1 O2
  go_wp2_with fail
  generalize (w1.setCell ⟨w.heap.size + 1 + 1, 0, none⟩ (.slice (some ⟨a1, 0, none⟩) na na)).setCell ⟨w.heap.size + 1 + 1, 1, none⟩ (.slice (some ⟨a2, 0, none⟩) ma ma) = w2 at *
  clear c0 c1 c2 c3 c4 c5 c6 c7 c8 c9 c10 c11 c12 c13 c14 c15 c16 cf cl d0 d1 d2 d3 d4 d5 d6 d7 d8 d9 d10 d11 d12 d13 d14 d15 d16 df dl
  refine (E2.out _ BS.out).mono ?_
  rintro e w3 ⟨rfl, r3, bb3⟩
  have h3s := bb3.size
  have j0 := (bb3.block w.heap.size (by omega)).trans k0.out
  have j1 := (bb3.block (w.heap.size + 1) (by omega)).trans k1.out
  have j2 := (bb3.block (w.heap.size + 1 + 1) (by omega)).trans M2.out
  have B3 := Lib.hid (bT BS.out bb3)
  have T3 := Lib.hid (T2.out.below bb3)
  have hA3 : w.heap.size + 3 ≤ w2.heap.size := by omega
  clear hsz hz
  generalize w2.heap.size = a3 at *
  have R3 := Lib.hid r3
  clear r3 bb3 BS T2 M2 k0 k1
  obtain ⟨c0, c1, c2, c3, c4, c5, c6, c7, c8, c9, c10, c11, c12, c13, c14, c15, c16, cf, cl⟩ := cells17 j0
  obtain ⟨d0, d1, d2, d3, d4, d5, d6, d7, d8, d9, d10, d11, d12, d13, d14, d15, d16, df, dl⟩ := cells17 j2
  have M3 := Lib.hid (set23 j2 (.slice (some ⟨a3, 0, none⟩) x x) (.bool op))
  have hle : w.heap.size ≤ w.heap.size + 1 + 1 := by omega
  have BS := Lib.hid ((B3.out.setCell (p := ⟨w.heap.size + 1 + 1, 2, none⟩) hle (.slice (some ⟨a3, 0, none⟩) x x)).setCell (p := ⟨w.heap.size + 1 + 1, 3, none⟩) hle (.bool op))
  have O4 := Lib.hid (show ∀ c, c ≠ w.heap.size + 1 + 1 → ((w3.setCell ⟨w.heap.size + 1 + 1, 2, none⟩ (.slice (some ⟨a3, 0, none⟩) x x)).setCell ⟨w.heap.size + 1 + 1, 3, none⟩ (.bool op)).heap[c]? = w3.heap[c]? from fun c hc => (Below.heap_setCell _ _ _ _ hc).trans (Below.heap_setCell _ _ _ _ hc))
  have hsz4 : ((w3.setCell ⟨w.heap.size + 1 + 1, 2, none⟩ (.slice (some ⟨a3, 0, none⟩) x x)).setCell ⟨w.heap.size + 1 + 1, 3, none⟩ (.bool op)).heap.size = w3.heap.size := by rw [set_size, set_size]
  have k0 := Lib.hid ((O4.out w.heap.size (by omega)).trans j0)
  have k1 := Lib.hid ((O4.out (w.heap.size + 1) (by omega)).trans j1)
  have T4 := Lib.hid (T3.out.frame (fun c hc => O4.out c (by omega)))
  have R4 := Lib.hid (R3.out.frame (O4.out a3 (by omega)))
  clear j0 j1 j2 B3 hle T3 R3 O4
  go_wp2_with fail
  generalize (w3.setCell ⟨w.heap.size + 1 + 1, 2, none⟩ (.slice (some ⟨a3, 0, none⟩) x x)).setCell ⟨w.heap.size + 1 + 1, 3, none⟩ (.bool op) = w4 at *
  clear c0 c1 c2 c3 c4 c5 c6 c7 c8 c9 c10 c11 c12 c13 c14 c15 c16 cf cl d0 d1 d2 d3 d4 d5 d6 d7 d8 d9 d10 d11 d12 d13 d14 d15 d16 df dl
  refine (E3.out _ BS.out).mono ?_
  rintro e w5 ⟨b1, b2, b3, b4, b5, rs', rfl, eb, o5, bb5⟩
  have h5s := bb5.size
  have j0 := (bb5.block w.heap.size (by omega)).trans k0.out
  have j1 := (bb5.block (w.heap.size + 1) (by omega)).trans k1.out
  have j2 := (bb5.block (w.heap.size + 1 + 1) (by omega)).trans M3.out
  have B5 := Lib.hid (bT BS.out bb5)
  have T5 := Lib.hid (T4.out.below bb5)
  have R5 := Lib.hid (R4.out.below bb5)
  have S5 := Lib.hid o5
  have EB := Lib.hid eb
  clear o5 eb bb5 BS T4 R4 M3 k0 k1
  obtain ⟨c0, c1, c2, c3, c4, c5, c6, c7, c8, c9, c10, c11, c12, c13, c14, c15, c16, cf, cl⟩ := cells17 j0
  obtain ⟨d0, d1, d2, d3, d4, d5, d6, d7, d8, d9, d10, d11, d12, d13, d14, d15, d16, df, dl⟩ := cells17 j2
  have hle : w.heap.size ≤ w.heap.size + 1 + 1 := by omega
  have hle1 : w.heap.size ≤ w.heap.size + 1 := by omega
  have hc3 : w.heap.size + 3 ≤ w4.heap.size := by omega
  have M6 := Lib.hid (setT_same j2 (.slice (some ⟨b1, 0, none⟩) n n) (.slice (some ⟨b2, 0, none⟩) m m) (.int .i64 top) (.int .i64 pr) (.int .i64 st) (.int .i64 bu) (.slice (some ⟨b3, 0, none⟩) q q) (.slice (some ⟨b4, 0, none⟩) p p) (.slice (some ⟨b5, 0, none⟩) u u) (.int .i64 ai) (.int .i64 fx) (.bool gc) (.bool gf))
  have O6 := Lib.hid (fun (c : Nat) (h : c ≠ w.heap.size + 1 + 1) => setT_other (w := w5) h (.slice (some ⟨b1, 0, none⟩) n n) (.slice (some ⟨b2, 0, none⟩) m m) (.int .i64 top) (.int .i64 pr) (.int .i64 st) (.int .i64 bu) (.slice (some ⟨b3, 0, none⟩) q q) (.slice (some ⟨b4, 0, none⟩) p p) (.slice (some ⟨b5, 0, none⟩) u u) (.int .i64 ai) (.int .i64 fx) (.bool gc) (.bool gf))
  have B6 := Lib.hid (setT_below B5.out hle (.slice (some ⟨b1, 0, none⟩) n n) (.slice (some ⟨b2, 0, none⟩) m m) (.int .i64 top) (.int .i64 pr) (.int .i64 st) (.int .i64 bu) (.slice (some ⟨b3, 0, none⟩) q q) (.slice (some ⟨b4, 0, none⟩) p p) (.slice (some ⟨b5, 0, none⟩) u u) (.int .i64 ai) (.int .i64 fx) (.bool gc) (.bool gf))
  have J1 := Lib.hid ((O6.out (w.heap.size + 1) (by omega)).trans j1)
  have T6 := Lib.hid (T5.out.frame (fun c hc => O6.out c (by omega)))
  have R6 := Lib.hid (R5.out.frame (O6.out a3 (by omega)))
  have S6 := Lib.hid (S5.out.frame (fun c hc => O6.out c (by omega)))
  clear j0 j1 j2 hsz4 T5 R5 S5 O6 B5
  rename_i Q1 K1 hK1 K0 hK0
  have HK := Lib.hid hK1
  clear hK1
  go_wp2_with fail
  generalize (((((((((((((w5.setCell ⟨w.heap.size + 1 + 1, 4, none⟩ (.slice (some ⟨b1, 0, none⟩) n n)).setCell ⟨w.heap.size + 1 + 1, 5, none⟩ (.slice (some ⟨b2, 0, none⟩) m m)).setCell ⟨w.heap.size + 1 + 1, 6, none⟩ (.int .i64 top)).setCell ⟨w.heap.size + 1 + 1, 7, none⟩ (.int .i64 pr)).setCell ⟨w.heap.size + 1 + 1, 8, none⟩ (.int .i64 st)).setCell ⟨w.heap.size + 1 + 1, 9, none⟩ (.int .i64 bu)).setCell ⟨w.heap.size + 1 + 1, 10, none⟩ (.slice (some ⟨b3, 0, none⟩) q q)).setCell ⟨w.heap.size + 1 + 1, 11, none⟩ (.slice (some ⟨b4, 0, none⟩) p p)).setCell ⟨w.heap.size + 1 + 1, 12, none⟩ (.slice (some ⟨b5, 0, none⟩) u u)).setCell ⟨w.heap.size + 1 + 1, 13, none⟩ (.int .i64 ai)).setCell ⟨w.heap.size + 1 + 1, 14, none⟩ (.int .i64 fx)).setCell ⟨w.heap.size + 1 + 1, 15, none⟩ (.bool gc)).setCell ⟨w.heap.size + 1 + 1, 16, none⟩ (.bool gf)) = w6 at *
  clear c0 c1 c2 c3 c4 c5 c6 c7 c8 c9 c10 c11 c12 c13 c14 c15 c16 cf cl d0 d1 d2 d3 d4 d5 d6 d7 d8 d9 d10 d11 d12 d13 d14 d15 d16 df dl
  refine HK.out _ _ ?_
  clear HK
  have O9 := Lib.hid (fun (c : Nat) (h : c ≠ w.heap.size + 1) => setRow_other w6 (w.heap.size + 1) c (EnC (some ⟨a1, 0, none⟩) na na (some ⟨a2, 0, none⟩) ma ma (some ⟨a3, 0, none⟩) x x op (some ⟨b1, 0, none⟩) n n (some ⟨b2, 0, none⟩) m m top pr st bu (some ⟨b3, 0, none⟩) q q (some ⟨b4, 0, none⟩) p p (some ⟨b5, 0, none⟩) u u ai fx gc gf) h)
  have B9 := Lib.hid (below_setRow B6.out hle1 (EnC (some ⟨a1, 0, none⟩) na na (some ⟨a2, 0, none⟩) ma ma (some ⟨a3, 0, none⟩) x x op (some ⟨b1, 0, none⟩) n n (some ⟨b2, 0, none⟩) m m top pr st bu (some ⟨b3, 0, none⟩) q q (some ⟨b4, 0, none⟩) p p (some ⟨b5, 0, none⟩) u u ai fx gc gf))
  have U9 := Lib.hid (setRow_heap w6 (w.heap.size + 1) _ (EnC (some ⟨a1, 0, none⟩) na na (some ⟨a2, 0, none⟩) ma ma (some ⟨a3, 0, none⟩) x x op (some ⟨b1, 0, none⟩) n n (some ⟨b2, 0, none⟩) m m top pr st bu (some ⟨b3, 0, none⟩) q q (some ⟨b4, 0, none⟩) p p (some ⟨b5, 0, none⟩) u u ai fx gc gf) 48 (0, 0) J1.out)
  have P := Lib.hid (show OwnE w.heap.size _ a1 a2 a3 b1 b2 b3 b4 b5 ra' qa zs rs' ps bs ls us from ⟨(T6.out.frame (fun c hc => O9.out c (by omega))).lower (by omega), R6.out.frame (O9.out a3 (by omega)), (S6.out.frame (fun c hc => O9.out c (by omega))).lower (by omega), by omega⟩)
  have H48 := Lib.hid (show (Tryz.prog.info? 48).map (·.size) = some (EnC (some ⟨a1, 0, none⟩) na na (some ⟨a2, 0, none⟩) ma ma (some ⟨a3, 0, none⟩) x x op (some ⟨b1, 0, none⟩) n n (some ⟨b2, 0, none⟩) m m top pr st bu (some ⟨b3, 0, none⟩) q q (some ⟨b4, 0, none⟩) p p (some ⟨b5, 0, none⟩) u u ai fx gc gf).size by kernel_rfl)
  have Z48 := Lib.hid (show (EnC (some ⟨a1, 0, none⟩) na na (some ⟨a2, 0, none⟩) ma ma (some ⟨a3, 0, none⟩) x x op (some ⟨b1, 0, none⟩) n n (some ⟨b2, 0, none⟩) m m top pr st bu (some ⟨b3, 0, none⟩) q q (some ⟨b4, 0, none⟩) p p (some ⟨b5, 0, none⟩) u u ai fx gc gf).all (·.oneCell') = true by simp [Value.oneCell'])
  have M7 := Lib.hid (show w6.heap[w.heap.size + 1 + 1]? = some (.cells (EnC (some ⟨a1, 0, none⟩) na na (some ⟨a2, 0, none⟩) ma ma (some ⟨a3, 0, none⟩) x x op (some ⟨b1, 0, none⟩) n n (some ⟨b2, 0, none⟩) m m top pr st bu (some ⟨b3, 0, none⟩) q q (some ⟨b4, 0, none⟩) p p (some ⟨b5, 0, none⟩) u u ai fx gc gf) 48) from M6.out)
  have E7 := Lib.hid (show EnV (some ⟨a1, 0, none⟩) na na (some ⟨a2, 0, none⟩) ma ma (some ⟨a3, 0, none⟩) x x op (some ⟨b1, 0, none⟩) n n (some ⟨b2, 0, none⟩) m m top pr st bu (some ⟨b3, 0, none⟩) q q (some ⟨b4, 0, none⟩) p p (some ⟨b5, 0, none⟩) u u ai fx gc gf = .agg (EnC (some ⟨a1, 0, none⟩) na na (some ⟨a2, 0, none⟩) ma ma (some ⟨a3, 0, none⟩) x x op (some ⟨b1, 0, none⟩) n n (some ⟨b2, 0, none⟩) m m top pr st bu (some ⟨b3, 0, none⟩) q q (some ⟨b4, 0, none⟩) p p (some ⟨b5, 0, none⟩) u u ai fx gc gf) from rfl)
  clear T6 R6 S6 O9 B6 hle hle1 hc3 hA3 h3s h5s M6
  generalize hds : EnC (some ⟨a1, 0, none⟩) na na (some ⟨a2, 0, none⟩) ma ma (some ⟨a3, 0, none⟩) x x op (some ⟨b1, 0, none⟩) n n (some ⟨b2, 0, none⟩) m m top pr st bu (some ⟨b3, 0, none⟩) q q (some ⟨b4, 0, none⟩) p p (some ⟨b5, 0, none⟩) u u ai fx gc gf = ds at *
  go_wp2_with (first | (refine wpList_load_row rfl 48 _ rfl (w.heap.size + 1 + 1) rfl 48 ds (0, 0) _ M7.out Tryz.underlying48 rfl H48.out ?_) | (refine wpList_store_row rfl 48 _ _ rfl (w.heap.size + 1) ds rfl rfl 48 _ J1.out H48.out (by rw [← hds]; rfl) Z48.out ?_))
  refine bodyPost_ret (results_cell_row (P := Tryz.prog) Tryz.results6 _ _ (w.heap.size + 1) 48 ds (0, 0) _ rfl U9.out Tryz.underlying48 rfl H48.out) rfl ⟨a1, a2, a3, b1, b2, b3, b4, b5, ra', rs', by rw [← hds], EA.out, EB.out, P.out, B9.out⟩

end Go.Proofs.YtdbebcigikbjgaaGreat
namespace Go.Proofs.YtdbebcigikbjgaaGreat
open Go.RowKit
set_option linter.unusedVariables false

/-- The zero stage: empty lists, noughts. -/
def ZerS (n m : Nat) (top pr st bu : Int) (q p u : Nat) (ai fx : Int) (gc gf : Bool) : Prop :=
  n = 0 ∧ m = 0 ∧ top = 0 ∧ pr = 0 ∧ st = 0 ∧ bu = 0 ∧ q = 0 ∧ p = 0 ∧ u = 0 ∧ ai = 0 ∧ fx = 0 ∧ gc = false ∧ gf = false
theorem len0 {n : Nat} (h : n = 0) : (((n : Int) == 0) = true) ∧ ¬ (0 : Int) < (n : Int) := by subst h; simp
theorem len1 {n : Nat} (h : ¬ n = 0) : (((n : Int) == 0) = false) ∧ (0 : Int) < (n : Int) := by
  refine ⟨by simpa using (by omega : ¬ (n : Int) = 0), by omega⟩
theorem int0 {n : Int} (h : n = 0) : (n == 0) = true := by subst h; rfl
theorem int1 {n : Int} (h : ¬ n = 0) : (n == 0) = false := by simpa using h

set_option maxRecDepth 100000 in
set_option maxHeartbeats 2000000 in
/-- impl.noTable. -/
theorem ntab_any (sl : Option Addr) (n cap : Nat) (tl : Option Addr) (m kap : Nat) (w : World) :
    Calls Tryz.prog 20 #[TV sl n cap tl m kap] w fun e w' => e = .returned (.bool (B (n = 0 ∧ m = 0))) ∧ Below w.heap.size w w' := by
  have B0 := Lib.hid (bA0 w (.cells #[.slice sl n cap, .slice tl m kap] 40))
  by_cases h1 : n = 0
  case neg =>
    rw [B_no (fun h => h1 h.1)]
    obtain ⟨g1, g2⟩ := len1 h1
    clear h1 g2
    go_enter Tryz.func20, Tryz.ntmps20
    go_wp2
    go_ret
    exact ⟨rfl, B0.out⟩
  obtain ⟨g1, g2⟩ := len0 h1
  by_cases h2 : m = 0
  case neg =>
    rw [B_no (fun h => h2 h.2)]
    obtain ⟨g3, g4⟩ := len1 h2
    clear h1 h2 g2 g4
    go_enter Tryz.func20, Tryz.ntmps20
    go_wp2
    go_ret
    exact ⟨rfl, B0.out⟩
  rw [B_yes ⟨h1, h2⟩]
  obtain ⟨g3, g4⟩ := len0 h2
  clear h1 h2 g2 g4
  go_enter Tryz.func20, Tryz.ntmps20
  go_wp2
  go_ret
  exact ⟨rfl, B0.out⟩

set_option maxRecDepth 100000 in
set_option maxHeartbeats 8000000 in
/-- spec.l15Zero. -/
theorem szer_any (sl : Option Addr) (n cap : Nat) (tl : Option Addr) (m kap : Nat) (top pr st bu : Int) (bl : Option Addr) (q cb : Nat) (pl : Option Addr) (p cp : Nat) (ul : Option Addr) (u cu : Nat) (ai fx : Int) (gc gf : Bool) (w : World) :
    Calls Tryz.prog 14 #[SgV sl n cap tl m kap top pr st bu bl q cb pl p cp ul u cu ai fx gc gf] w fun e w' => e = .returned (.bool (B (ZerS n m top pr st bu q p u ai fx gc gf))) ∧ Below w.heap.size w w' := by
  have BB := Lib.hid (bA (bA0 w (.cells (SgC sl n cap tl m kap top pr st bu bl q cb pl p cp ul u cu ai fx gc gf) 46)) (.cells (CC sl n cap tl m kap top pr st bu bl q cb pl p cp) 44))
  by_cases h_n : n = 0
  case neg =>
    rw [B_no (fun h => h_n h.1)]
    have g_n := (len1 h_n).1
    clear h_n
    go_enter Tryz.func14, Tryz.ntmps14
    go_wp2
    go_ret
    exact ⟨rfl, BB.out⟩
  have g_n := (len0 h_n).1
  by_cases h_m : m = 0
  case neg =>
    rw [B_no (fun h => h_m h.2.1)]
    have g_m := (len1 h_m).1
    clear h_n h_m
    go_enter Tryz.func14, Tryz.ntmps14
    go_wp2
    go_ret
    exact ⟨rfl, BB.out⟩
  have g_m := (len0 h_m).1
  by_cases h_top : top = 0
  case neg =>
    rw [B_no (fun h => h_top h.2.2.1)]
    have g_top := int1 h_top
    clear h_n h_m h_top
    go_enter Tryz.func14, Tryz.ntmps14
    go_wp2
    go_ret
    exact ⟨rfl, BB.out⟩
  have g_top := int0 h_top
  by_cases h_pr : pr = 0
  case neg =>
    rw [B_no (fun h => h_pr h.2.2.2.1)]
    have g_pr := int1 h_pr
    clear h_n h_m h_top h_pr
    go_enter Tryz.func14, Tryz.ntmps14
    go_wp2
    go_ret
    exact ⟨rfl, BB.out⟩
  have g_pr := int0 h_pr
  by_cases h_st : st = 0
  case neg =>
    rw [B_no (fun h => h_st h.2.2.2.2.1)]
    have g_st := int1 h_st
    clear h_n h_m h_top h_pr h_st
    go_enter Tryz.func14, Tryz.ntmps14
    go_wp2
    go_ret
    exact ⟨rfl, BB.out⟩
  have g_st := int0 h_st
  by_cases h_bu : bu = 0
  case neg =>
    rw [B_no (fun h => h_bu h.2.2.2.2.2.1)]
    have g_bu := int1 h_bu
    clear h_n h_m h_top h_pr h_st h_bu
    go_enter Tryz.func14, Tryz.ntmps14
    go_wp2
    go_ret
    exact ⟨rfl, BB.out⟩
  have g_bu := int0 h_bu
  by_cases h_q : q = 0
  case neg =>
    rw [B_no (fun h => h_q h.2.2.2.2.2.2.1)]
    have g_q := (len1 h_q).1
    clear h_n h_m h_top h_pr h_st h_bu h_q
    go_enter Tryz.func14, Tryz.ntmps14
    go_wp2
    go_ret
    exact ⟨rfl, BB.out⟩
  have g_q := (len0 h_q).1
  by_cases h_p : p = 0
  case neg =>
    rw [B_no (fun h => h_p h.2.2.2.2.2.2.2.1)]
    have g_p := (len1 h_p).1
    clear h_n h_m h_top h_pr h_st h_bu h_q h_p
    go_enter Tryz.func14, Tryz.ntmps14
    go_wp2
    go_ret
    exact ⟨rfl, BB.out⟩
  have g_p := (len0 h_p).1
  by_cases h_u : u = 0
  case neg =>
    rw [B_no (fun h => h_u h.2.2.2.2.2.2.2.2.1)]
    have g_u := (len1 h_u).1
    clear h_n h_m h_top h_pr h_st h_bu h_q h_p h_u
    go_enter Tryz.func14, Tryz.ntmps14
    go_wp2
    go_ret
    exact ⟨rfl, BB.out⟩
  have g_u := (len0 h_u).1
  by_cases h_ai : ai = 0
  case neg =>
    rw [B_no (fun h => h_ai h.2.2.2.2.2.2.2.2.2.1)]
    have g_ai := int1 h_ai
    clear h_n h_m h_top h_pr h_st h_bu h_q h_p h_u h_ai
    go_enter Tryz.func14, Tryz.ntmps14
    go_wp2
    go_ret
    exact ⟨rfl, BB.out⟩
  have g_ai := int0 h_ai
  by_cases h_fx : fx = 0
  case neg =>
    rw [B_no (fun h => h_fx h.2.2.2.2.2.2.2.2.2.2.1)]
    have g_fx := int1 h_fx
    clear h_n h_m h_top h_pr h_st h_bu h_q h_p h_u h_ai h_fx
    go_enter Tryz.func14, Tryz.ntmps14
    go_wp2
    go_ret
    exact ⟨rfl, BB.out⟩
  have g_fx := int0 h_fx
  by_cases h_gc : gc = false
  case neg =>
    rw [B_no (fun h => h_gc h.2.2.2.2.2.2.2.2.2.2.2.1)]
    have h_gc : gc = true := by cases gc <;> simp_all
    subst h_gc
    clear h_n h_m h_top h_pr h_st h_bu h_q h_p h_u h_ai h_fx
    go_enter Tryz.func14, Tryz.ntmps14
    go_wp2
    go_ret
    exact ⟨rfl, BB.out⟩
  subst h_gc
  by_cases h_gf : gf = false
  case neg =>
    rw [B_no (fun h => h_gf h.2.2.2.2.2.2.2.2.2.2.2.2)]
    have h_gf : gf = true := by cases gf <;> simp_all
    subst h_gf
    clear h_n h_m h_top h_pr h_st h_bu h_q h_p h_u h_ai h_fx
    go_enter Tryz.func14, Tryz.ntmps14
    go_wp2
    go_ret
    exact ⟨rfl, BB.out⟩
  subst h_gf
  rw [B_yes ⟨h_n, h_m, h_top, h_pr, h_st, h_bu, h_q, h_p, h_u, h_ai, h_fx, rfl, rfl⟩]
  clear h_n h_m h_top h_pr h_st h_bu h_q h_p h_u h_ai h_fx
  go_enter Tryz.func14, Tryz.ntmps14
  go_wp2
  go_ret
  exact ⟨rfl, BB.out⟩

set_option maxRecDepth 100000 in
set_option maxHeartbeats 8000000 in
/-- impl.noStage. -/
theorem izer_any (sl : Option Addr) (n cap : Nat) (tl : Option Addr) (m kap : Nat) (top pr st bu : Int) (bl : Option Addr) (q cb : Nat) (pl : Option Addr) (p cp : Nat) (ul : Option Addr) (u cu : Nat) (ai fx : Int) (gc gf : Bool) (w : World) :
    Calls Tryz.prog 21 #[SgV sl n cap tl m kap top pr st bu bl q cb pl p cp ul u cu ai fx gc gf] w fun e w' => e = .returned (.bool (B (ZerS n m top pr st bu q p u ai fx gc gf))) ∧ Below w.heap.size w w' := by
  have BB := Lib.hid (bA (bA0 w (.cells (SgC sl n cap tl m kap top pr st bu bl q cb pl p cp ul u cu ai fx gc gf) 46)) (.cells (CC sl n cap tl m kap top pr st bu bl q cb pl p cp) 44))
  have NT := Lib.hid (fun W => ntab_any sl n cap tl m kap W)
  by_cases h_t : n = 0 ∧ m = 0
  case neg =>
    rw [B_no (fun h => h_t ⟨h.1, h.2.1⟩)]
    rw [B_no h_t] at NT
    clear h_t
    go_enter Tryz.func21, Tryz.ntmps21
    go_wp2_with fail
    refine (NT.out _).mono ?_
    rintro e w1 ⟨rfl, b1⟩
    have D1 := Lib.hid (bT BB.out b1)
    obtain ⟨hc, hf⟩ := bcell b1
    clear b1
    go_wp2
    go_ret
    exact ⟨rfl, D1.out⟩
  rw [B_yes h_t] at NT
  by_cases h_q : q = 0
  case neg =>
    rw [B_no (fun h => h_q h.2.2.2.2.2.2.1)]
    have g_q := (len1 h_q).2
    clear h_t h_q
    go_enter Tryz.func21, Tryz.ntmps21
    go_wp2_with fail
    refine (NT.out _).mono ?_
    rintro e w1 ⟨rfl, b1⟩
    have D1 := Lib.hid (bT BB.out b1)
    obtain ⟨hc, hf⟩ := bcell b1
    clear b1
    go_wp2
    go_ret
    exact ⟨rfl, D1.out⟩
  have g_q := (len0 h_q).2
  by_cases h_p : p = 0
  case neg =>
    rw [B_no (fun h => h_p h.2.2.2.2.2.2.2.1)]
    have g_p := (len1 h_p).2
    clear h_t h_q h_p
    go_enter Tryz.func21, Tryz.ntmps21
    go_wp2_with fail
    refine (NT.out _).mono ?_
    rintro e w1 ⟨rfl, b1⟩
    have D1 := Lib.hid (bT BB.out b1)
    obtain ⟨hc, hf⟩ := bcell b1
    clear b1
    go_wp2
    go_ret
    exact ⟨rfl, D1.out⟩
  have g_p := (len0 h_p).2
  by_cases h_u : u = 0
  case neg =>
    rw [B_no (fun h => h_u h.2.2.2.2.2.2.2.2.1)]
    have g_u := (len1 h_u).2
    clear h_t h_q h_p h_u
    go_enter Tryz.func21, Tryz.ntmps21
    go_wp2_with fail
    refine (NT.out _).mono ?_
    rintro e w1 ⟨rfl, b1⟩
    have D1 := Lib.hid (bT BB.out b1)
    obtain ⟨hc, hf⟩ := bcell b1
    clear b1
    go_wp2
    go_ret
    exact ⟨rfl, D1.out⟩
  have g_u := (len0 h_u).2
  by_cases h_gc : gc = false
  case neg =>
    rw [B_no (fun h => h_gc h.2.2.2.2.2.2.2.2.2.2.2.1)]
    have h_gc : gc = true := by cases gc <;> simp_all
    subst h_gc
    clear h_t h_q h_p h_u
    go_enter Tryz.func21, Tryz.ntmps21
    go_wp2_with fail
    refine (NT.out _).mono ?_
    rintro e w1 ⟨rfl, b1⟩
    have D1 := Lib.hid (bT BB.out b1)
    obtain ⟨hc, hf⟩ := bcell b1
    clear b1
    go_wp2
    go_ret
    exact ⟨rfl, D1.out⟩
  subst h_gc
  by_cases h_gf : gf = false
  case neg =>
    rw [B_no (fun h => h_gf h.2.2.2.2.2.2.2.2.2.2.2.2)]
    have h_gf : gf = true := by cases gf <;> simp_all
    subst h_gf
    clear h_t h_q h_p h_u
    go_enter Tryz.func21, Tryz.ntmps21
    go_wp2_with fail
    refine (NT.out _).mono ?_
    rintro e w1 ⟨rfl, b1⟩
    have D1 := Lib.hid (bT BB.out b1)
    obtain ⟨hc, hf⟩ := bcell b1
    clear b1
    go_wp2
    go_ret
    exact ⟨rfl, D1.out⟩
  subst h_gf
  by_cases h_top : top = 0
  case neg =>
    rw [B_no (fun h => h_top h.2.2.1)]
    have g_top := int1 h_top
    clear h_t h_q h_p h_u h_top
    go_enter Tryz.func21, Tryz.ntmps21
    go_wp2_with fail
    refine (NT.out _).mono ?_
    rintro e w1 ⟨rfl, b1⟩
    have D1 := Lib.hid (bT BB.out b1)
    obtain ⟨hc, hf⟩ := bcell b1
    clear b1
    go_wp2
    go_ret
    exact ⟨rfl, D1.out⟩
  have g_top := int0 h_top
  by_cases h_pr : pr = 0
  case neg =>
    rw [B_no (fun h => h_pr h.2.2.2.1)]
    have g_pr := int1 h_pr
    clear h_t h_q h_p h_u h_top h_pr
    go_enter Tryz.func21, Tryz.ntmps21
    go_wp2_with fail
    refine (NT.out _).mono ?_
    rintro e w1 ⟨rfl, b1⟩
    have D1 := Lib.hid (bT BB.out b1)
    obtain ⟨hc, hf⟩ := bcell b1
    clear b1
    go_wp2
    go_ret
    exact ⟨rfl, D1.out⟩
  have g_pr := int0 h_pr
  by_cases h_st : st = 0
  case neg =>
    rw [B_no (fun h => h_st h.2.2.2.2.1)]
    have g_st := int1 h_st
    clear h_t h_q h_p h_u h_top h_pr h_st
    go_enter Tryz.func21, Tryz.ntmps21
    go_wp2_with fail
    refine (NT.out _).mono ?_
    rintro e w1 ⟨rfl, b1⟩
    have D1 := Lib.hid (bT BB.out b1)
    obtain ⟨hc, hf⟩ := bcell b1
    clear b1
    go_wp2
    go_ret
    exact ⟨rfl, D1.out⟩
  have g_st := int0 h_st
  by_cases h_bu : bu = 0
  case neg =>
    rw [B_no (fun h => h_bu h.2.2.2.2.2.1)]
    have g_bu := int1 h_bu
    clear h_t h_q h_p h_u h_top h_pr h_st h_bu
    go_enter Tryz.func21, Tryz.ntmps21
    go_wp2_with fail
    refine (NT.out _).mono ?_
    rintro e w1 ⟨rfl, b1⟩
    have D1 := Lib.hid (bT BB.out b1)
    obtain ⟨hc, hf⟩ := bcell b1
    clear b1
    go_wp2
    go_ret
    exact ⟨rfl, D1.out⟩
  have g_bu := int0 h_bu
  by_cases h_ai : ai = 0
  case neg =>
    rw [B_no (fun h => h_ai h.2.2.2.2.2.2.2.2.2.1)]
    have g_ai := int1 h_ai
    clear h_t h_q h_p h_u h_top h_pr h_st h_bu h_ai
    go_enter Tryz.func21, Tryz.ntmps21
    go_wp2_with fail
    refine (NT.out _).mono ?_
    rintro e w1 ⟨rfl, b1⟩
    have D1 := Lib.hid (bT BB.out b1)
    obtain ⟨hc, hf⟩ := bcell b1
    clear b1
    go_wp2
    go_ret
    exact ⟨rfl, D1.out⟩
  have g_ai := int0 h_ai
  by_cases h_fx : fx = 0
  case neg =>
    rw [B_no (fun h => h_fx h.2.2.2.2.2.2.2.2.2.2.1)]
    have g_fx := int1 h_fx
    clear h_t h_q h_p h_u h_top h_pr h_st h_bu h_ai h_fx
    go_enter Tryz.func21, Tryz.ntmps21
    go_wp2_with fail
    refine (NT.out _).mono ?_
    rintro e w1 ⟨rfl, b1⟩
    have D1 := Lib.hid (bT BB.out b1)
    obtain ⟨hc, hf⟩ := bcell b1
    clear b1
    go_wp2
    go_ret
    exact ⟨rfl, D1.out⟩
  have g_fx := int0 h_fx
  rw [B_yes ⟨h_t.1, h_t.2, h_top, h_pr, h_st, h_bu, h_q, h_p, h_u, h_ai, h_fx, rfl, rfl⟩]
  clear h_t h_q h_p h_u h_top h_pr h_st h_bu h_ai h_fx
  go_enter Tryz.func21, Tryz.ntmps21
  go_wp2_with fail
  refine (NT.out _).mono ?_
  rintro e w1 ⟨rfl, b1⟩
  have D1 := Lib.hid (bT BB.out b1)
  obtain ⟨hc, hf⟩ := bcell b1
  clear b1
  go_wp2
  go_ret
  exact ⟨rfl, D1.out⟩

end Go.Proofs.YtdbebcigikbjgaaGreat
namespace Go.Proofs.YtdbebcigikbjgaaGreat
open Go.RowKit
set_option linter.unusedVariables false

/-- A right engine (I: Must are Ids of a right table, R: the stage is right, L: it is of this table, Z: it is the zero one). -/
def EngP (E X I : Prop) (op : Bool) (R L Z : Prop) : Prop := (E → X) ∧ (¬ E → I) ∧ (op = true → R ∧ L) ∧ (op = false → Z)

set_option maxRecDepth 100000 in
set_option maxHeartbeats 8000000 in
/-- impl.EngineRight. -/
theorem ier_of (sa : Option Addr) (na ca : Nat) (ta : Option Addr) (ma ka : Nat) (xl : Option Addr) (x cx : Nat) (op : Bool) (sl : Option Addr) (n cap : Nat) (tl : Option Addr) (m kap : Nat) (top pr st bu : Int) (bl : Option Addr) (q cb : Nat) (pl : Option Addr) (p cp : Nat) (ul : Option Addr) (u cu : Nat) (ai fx : Int) (gc gf : Bool) (I R L Z : Prop) (w : World) (hE : na = 0 → R → L → False)
    (NS : Hid (∀ W, Below w.heap.size w W → Calls Tryz.prog 21 #[SgV sl n cap tl m kap top pr st bu bl q cb pl p cp ul u cu ai fx gc gf] W fun e w' => e = .returned (.bool (B Z)) ∧ Below W.heap.size W w'))
    (II : Hid (∀ W, Below w.heap.size w W → Calls Tryz.prog 22 #[TV sa na ca ta ma ka, .slice xl x cx] W fun e w' => e = .returned (.bool (B I)) ∧ Below W.heap.size W w'))
    (SR : Hid (∀ W, Below w.heap.size w W → Calls Tryz.prog 23 #[SgV sl n cap tl m kap top pr st bu bl q cb pl p cp ul u cu ai fx gc gf] W fun e w' => e = .returned (.bool (B R)) ∧ Below W.heap.size W w'))
    (AL : Hid (∀ W, Below w.heap.size w W → Calls Tryz.prog 24 #[TV sl n cap tl m kap, TV sa na ca ta ma ka] W fun e w' => e = .returned (.bool (B L)) ∧ Below W.heap.size W w')) :
    Calls Tryz.prog 7 #[EnV sa na ca ta ma ka xl x cx op sl n cap tl m kap top pr st bu bl q cb pl p cp ul u cu ai fx gc gf] w fun e w' => e = .returned (.bool (B (EngP (na = 0 ∧ ma = 0) (x = 0) I op R L Z))) ∧ Below w.heap.size w w' := by
  have B0 := Lib.hid (bA0 w (.cells (EnC sa na ca ta ma ka xl x cx op sl n cap tl m kap top pr st bu bl q cb pl p cp ul u cu ai fx gc gf) 48))
  have N0 := Lib.hid (new_at w (.cells (EnC sa na ca ta ma ka xl x cx op sl n cap tl m kap top pr st bu bl q cb pl p cp ul u cu ai fx gc gf) 48))
  have hS : (w.alloc (.cells (EnC sa na ca ta ma ka xl x cx op sl n cap tl m kap top pr st bu bl q cb pl p cp ul u cu ai fx gc gf) 48)).heap.size = w.heap.size + 1 := by simp
  have KC : Hid (∀ W, Below (w.heap.size + 1) (w.alloc (.cells (EnC sa na ca ta ma ka xl x cx op sl n cap tl m kap top pr st bu bl q cb pl p cp ul u cu ai fx gc gf) 48)) W → W.heap[w.heap.size]? = some (.cells (EnC sa na ca ta ma ka xl x cx op sl n cap tl m kap top pr st bu bl q cb pl p cp ul u cu ai fx gc gf) 48)) := fun W hW => (hW.block w.heap.size (by omega)).trans N0.out
  clear N0
  have NT : Hid (∀ W, Below w.heap.size w W → Calls Tryz.prog 20 #[TV sa na ca ta ma ka] W fun e w' => e = .returned (.bool (B (na = 0 ∧ ma = 0))) ∧ Below W.heap.size W w') := fun W hW => ntab_any sa na ca ta ma ka W
  by_cases E : na = 0 ∧ ma = 0
  · rw [B_yes E] at NT
    by_cases hx : x = 0
    case neg =>
      rw [B_no (fun h => hx (h.1 E))]
      have g1 := (len1 hx).1
      clear hx E hE NS II SR AL
      go_enter Tryz.func7, Tryz.ntmps7
      go_wp2_with fail
      refine (NT.out _ B0.out).mono ?_
      rintro e w1 ⟨rfl, b1⟩
      have D1 := Lib.hid (bT B0.out b1)
      have A1 : Hid (Below (w.heap.size + 1) (w.alloc (.cells (EnC sa na ca ta ma ka xl x cx op sl n cap tl m kap top pr st bu bl q cb pl p cp ul u cu ai fx gc gf) 48)) w1) := by rw [← hS]; exact b1
      clear b1
      obtain ⟨c0, c1, c2, c3, c4, c5, c6, c7, c8, c9, c10, c11, c12, c13, c14, c15, c16, cf, cl⟩ := cells17 (KC.out w1 A1.out)
      go_wp2
      go_ret
      exact ⟨rfl, D1.out⟩

    have g1 := (len0 hx).1
    cases op
    · have EQ : B (EngP (na = 0 ∧ ma = 0) (x = 0) I false R L Z) = B Z := B_iff ⟨fun h => h.2.2.2 rfl, fun h => ⟨fun _ => hx, fun g => absurd E g, fun g => (by cases g), fun _ => h⟩⟩
      rw [EQ]
      generalize B Z = r at *
      clear hx E hE II SR AL EQ
      go_enter Tryz.func7, Tryz.ntmps7
      go_wp2_with fail
      refine (NT.out _ B0.out).mono ?_
      rintro e w1 ⟨rfl, b1⟩
      have D1 := Lib.hid (bT B0.out b1)
      have A1 : Hid (Below (w.heap.size + 1) (w.alloc (.cells (EnC sa na ca ta ma ka xl x cx false sl n cap tl m kap top pr st bu bl q cb pl p cp ul u cu ai fx gc gf) 48)) w1) := by rw [← hS]; exact b1
      clear b1
      obtain ⟨c0, c1, c2, c3, c4, c5, c6, c7, c8, c9, c10, c11, c12, c13, c14, c15, c16, cf, cl⟩ := cells17 (KC.out w1 A1.out)
      go_wp2_with fail
      refine (NS.out _ D1.out).mono ?_
      rintro e w2 ⟨rfl, b2⟩
      have hs1 := A1.out.size
      have D2 := Lib.hid (bT D1.out b2)
      have A2 := Lib.hid (A1.out.trans (b2.mono (by omega)))
      clear b2 hs1 c0 c1 c2 c3 c4 c5 c6 c7 c8 c9 c10 c11 c12 c13 c14 c15 c16 cf cl
      obtain ⟨c0, c1, c2, c3, c4, c5, c6, c7, c8, c9, c10, c11, c12, c13, c14, c15, c16, cf, cl⟩ := cells17 (KC.out w2 A2.out)
      go_wp2
      go_ret
      exact ⟨rfl, D2.out⟩

    · rw [B_no (fun h => hE E.1 (h.2.2.1 rfl).1 (h.2.2.1 rfl).2)]
      clear hx E hE NS II SR AL
      go_enter Tryz.func7, Tryz.ntmps7
      go_wp2_with fail
      refine (NT.out _ B0.out).mono ?_
      rintro e w1 ⟨rfl, b1⟩
      have D1 := Lib.hid (bT B0.out b1)
      have A1 : Hid (Below (w.heap.size + 1) (w.alloc (.cells (EnC sa na ca ta ma ka xl x cx true sl n cap tl m kap top pr st bu bl q cb pl p cp ul u cu ai fx gc gf) 48)) w1) := by rw [← hS]; exact b1
      clear b1
      obtain ⟨c0, c1, c2, c3, c4, c5, c6, c7, c8, c9, c10, c11, c12, c13, c14, c15, c16, cf, cl⟩ := cells17 (KC.out w1 A1.out)
      go_wp2
      go_ret
      exact ⟨rfl, D1.out⟩

  rw [B_no E] at NT
  by_cases hI : I
  case neg =>
    rw [B_no (fun h => hI (h.2.1 E))]
    rw [B_no hI] at II
    clear hI E hE NS SR AL
    go_enter Tryz.func7, Tryz.ntmps7
    go_wp2_with fail
    refine (NT.out _ B0.out).mono ?_
    rintro e w1 ⟨rfl, b1⟩
    have D1 := Lib.hid (bT B0.out b1)
    have A1 : Hid (Below (w.heap.size + 1) (w.alloc (.cells (EnC sa na ca ta ma ka xl x cx op sl n cap tl m kap top pr st bu bl q cb pl p cp ul u cu ai fx gc gf) 48)) w1) := by rw [← hS]; exact b1
    clear b1
    obtain ⟨c0, c1, c2, c3, c4, c5, c6, c7, c8, c9, c10, c11, c12, c13, c14, c15, c16, cf, cl⟩ := cells17 (KC.out w1 A1.out)
    go_wp2_with fail
    refine (II.out _ D1.out).mono ?_
    rintro e w2 ⟨rfl, b2⟩
    have hs1 := A1.out.size
    have D2 := Lib.hid (bT D1.out b2)
    have A2 := Lib.hid (A1.out.trans (b2.mono (by omega)))
    clear b2 hs1 c0 c1 c2 c3 c4 c5 c6 c7 c8 c9 c10 c11 c12 c13 c14 c15 c16 cf cl
    obtain ⟨c0, c1, c2, c3, c4, c5, c6, c7, c8, c9, c10, c11, c12, c13, c14, c15, c16, cf, cl⟩ := cells17 (KC.out w2 A2.out)
    go_wp2
    go_ret
    exact ⟨rfl, D2.out⟩

  rw [B_yes hI] at II
  cases op
  · have EQ : B (EngP (na = 0 ∧ ma = 0) (x = 0) I false R L Z) = B Z := B_iff ⟨fun h => h.2.2.2 rfl, fun h => ⟨fun g => absurd g E, fun _ => hI, fun g => (by cases g), fun _ => h⟩⟩
    rw [EQ]
    generalize B Z = r at *
    clear hI E hE SR AL EQ
    go_enter Tryz.func7, Tryz.ntmps7
    go_wp2_with fail
    refine (NT.out _ B0.out).mono ?_
    rintro e w1 ⟨rfl, b1⟩
    have D1 := Lib.hid (bT B0.out b1)
    have A1 : Hid (Below (w.heap.size + 1) (w.alloc (.cells (EnC sa na ca ta ma ka xl x cx false sl n cap tl m kap top pr st bu bl q cb pl p cp ul u cu ai fx gc gf) 48)) w1) := by rw [← hS]; exact b1
    clear b1
    obtain ⟨c0, c1, c2, c3, c4, c5, c6, c7, c8, c9, c10, c11, c12, c13, c14, c15, c16, cf, cl⟩ := cells17 (KC.out w1 A1.out)
    go_wp2_with fail
    refine (II.out _ D1.out).mono ?_
    rintro e w2 ⟨rfl, b2⟩
    have hs1 := A1.out.size
    have D2 := Lib.hid (bT D1.out b2)
    have A2 := Lib.hid (A1.out.trans (b2.mono (by omega)))
    clear b2 hs1 c0 c1 c2 c3 c4 c5 c6 c7 c8 c9 c10 c11 c12 c13 c14 c15 c16 cf cl
    obtain ⟨c0, c1, c2, c3, c4, c5, c6, c7, c8, c9, c10, c11, c12, c13, c14, c15, c16, cf, cl⟩ := cells17 (KC.out w2 A2.out)
    go_wp2_with fail
    refine (NS.out _ D2.out).mono ?_
    rintro e w3 ⟨rfl, b3⟩
    have hs2 := A2.out.size
    have D3 := Lib.hid (bT D2.out b3)
    have A3 := Lib.hid (A2.out.trans (b3.mono (by omega)))
    clear b3 hs2 c0 c1 c2 c3 c4 c5 c6 c7 c8 c9 c10 c11 c12 c13 c14 c15 c16 cf cl
    obtain ⟨c0, c1, c2, c3, c4, c5, c6, c7, c8, c9, c10, c11, c12, c13, c14, c15, c16, cf, cl⟩ := cells17 (KC.out w3 A3.out)
    go_wp2
    go_ret
    exact ⟨rfl, D3.out⟩

  by_cases hR : R
  case neg =>
    rw [B_no (fun h => hR (h.2.2.1 rfl).1)]
    rw [B_no hR] at SR
    clear hI E hE NS AL hR
    go_enter Tryz.func7, Tryz.ntmps7
    go_wp2_with fail
    refine (NT.out _ B0.out).mono ?_
    rintro e w1 ⟨rfl, b1⟩
    have D1 := Lib.hid (bT B0.out b1)
    have A1 : Hid (Below (w.heap.size + 1) (w.alloc (.cells (EnC sa na ca ta ma ka xl x cx true sl n cap tl m kap top pr st bu bl q cb pl p cp ul u cu ai fx gc gf) 48)) w1) := by rw [← hS]; exact b1
    clear b1
    obtain ⟨c0, c1, c2, c3, c4, c5, c6, c7, c8, c9, c10, c11, c12, c13, c14, c15, c16, cf, cl⟩ := cells17 (KC.out w1 A1.out)
    go_wp2_with fail
    refine (II.out _ D1.out).mono ?_
    rintro e w2 ⟨rfl, b2⟩
    have hs1 := A1.out.size
    have D2 := Lib.hid (bT D1.out b2)
    have A2 := Lib.hid (A1.out.trans (b2.mono (by omega)))
    clear b2 hs1 c0 c1 c2 c3 c4 c5 c6 c7 c8 c9 c10 c11 c12 c13 c14 c15 c16 cf cl
    obtain ⟨c0, c1, c2, c3, c4, c5, c6, c7, c8, c9, c10, c11, c12, c13, c14, c15, c16, cf, cl⟩ := cells17 (KC.out w2 A2.out)
    go_wp2_with fail
    refine (SR.out _ D2.out).mono ?_
    rintro e w3 ⟨rfl, b3⟩
    have hs2 := A2.out.size
    have D3 := Lib.hid (bT D2.out b3)
    have A3 := Lib.hid (A2.out.trans (b3.mono (by omega)))
    clear b3 hs2 c0 c1 c2 c3 c4 c5 c6 c7 c8 c9 c10 c11 c12 c13 c14 c15 c16 cf cl
    obtain ⟨c0, c1, c2, c3, c4, c5, c6, c7, c8, c9, c10, c11, c12, c13, c14, c15, c16, cf, cl⟩ := cells17 (KC.out w3 A3.out)
    go_wp2
    go_ret
    exact ⟨rfl, D3.out⟩

  rw [B_yes hR] at SR
  have EQ : B (EngP (na = 0 ∧ ma = 0) (x = 0) I true R L Z) = B L := B_iff ⟨fun h => (h.2.2.1 rfl).2, fun h => ⟨fun g => absurd g E, fun _ => hI, fun _ => ⟨hR, h⟩, fun g => (by cases g)⟩⟩
  rw [EQ]
  generalize B L = r at *
  clear hI E hE NS hR EQ
  go_enter Tryz.func7, Tryz.ntmps7
  go_wp2_with fail
  refine (NT.out _ B0.out).mono ?_
  rintro e w1 ⟨rfl, b1⟩
  have D1 := Lib.hid (bT B0.out b1)
  have A1 : Hid (Below (w.heap.size + 1) (w.alloc (.cells (EnC sa na ca ta ma ka xl x cx true sl n cap tl m kap top pr st bu bl q cb pl p cp ul u cu ai fx gc gf) 48)) w1) := by rw [← hS]; exact b1
  clear b1
  obtain ⟨c0, c1, c2, c3, c4, c5, c6, c7, c8, c9, c10, c11, c12, c13, c14, c15, c16, cf, cl⟩ := cells17 (KC.out w1 A1.out)
  go_wp2_with fail
  refine (II.out _ D1.out).mono ?_
  rintro e w2 ⟨rfl, b2⟩
  have hs1 := A1.out.size
  have D2 := Lib.hid (bT D1.out b2)
  have A2 := Lib.hid (A1.out.trans (b2.mono (by omega)))
  clear b2 hs1 c0 c1 c2 c3 c4 c5 c6 c7 c8 c9 c10 c11 c12 c13 c14 c15 c16 cf cl
  obtain ⟨c0, c1, c2, c3, c4, c5, c6, c7, c8, c9, c10, c11, c12, c13, c14, c15, c16, cf, cl⟩ := cells17 (KC.out w2 A2.out)
  go_wp2_with fail
  refine (SR.out _ D2.out).mono ?_
  rintro e w3 ⟨rfl, b3⟩
  have hs2 := A2.out.size
  have D3 := Lib.hid (bT D2.out b3)
  have A3 := Lib.hid (A2.out.trans (b3.mono (by omega)))
  clear b3 hs2 c0 c1 c2 c3 c4 c5 c6 c7 c8 c9 c10 c11 c12 c13 c14 c15 c16 cf cl
  obtain ⟨c0, c1, c2, c3, c4, c5, c6, c7, c8, c9, c10, c11, c12, c13, c14, c15, c16, cf, cl⟩ := cells17 (KC.out w3 A3.out)
  go_wp2_with fail
  refine (AL.out _ D3.out).mono ?_
  rintro e w4 ⟨rfl, b4⟩
  have hs3 := A3.out.size
  have D4 := Lib.hid (bT D3.out b4)
  have A4 := Lib.hid (A3.out.trans (b4.mono (by omega)))
  clear b4 hs3 c0 c1 c2 c3 c4 c5 c6 c7 c8 c9 c10 c11 c12 c13 c14 c15 c16 cf cl
  obtain ⟨c0, c1, c2, c3, c4, c5, c6, c7, c8, c9, c10, c11, c12, c13, c14, c15, c16, cf, cl⟩ := cells17 (KC.out w4 A4.out)
  go_wp2
  go_ret
  exact ⟨rfl, D4.out⟩

set_option maxRecDepth 100000 in
set_option maxHeartbeats 8000000 in
/-- spec.EngineRight. -/
theorem ser_of (sa : Option Addr) (na ca : Nat) (ta : Option Addr) (ma ka : Nat) (xl : Option Addr) (x cx : Nat) (op : Bool) (sl : Option Addr) (n cap : Nat) (tl : Option Addr) (m kap : Nat) (top pr st bu : Int) (bl : Option Addr) (q cb : Nat) (pl : Option Addr) (p cp : Nat) (ul : Option Addr) (u cu : Nat) (ai fx : Int) (gc gf : Bool) (T I R L Z : Prop) (w : World) (hT : I → T)
    (ST : Hid (∀ W, Below w.heap.size w W → Calls Tryz.prog 12 #[TV sa na ca ta ma ka] W fun e w' => e = .returned (.bool (B T)) ∧ Below W.heap.size W w'))
    (SI : Hid (∀ W, Below w.heap.size w W → Calls Tryz.prog 13 #[TV sa na ca ta ma ka, .slice xl x cx] W fun e w' => e = .returned (.bool (B I)) ∧ Below W.heap.size W w'))
    (SZ : Hid (∀ W, Below w.heap.size w W → Calls Tryz.prog 14 #[SgV sl n cap tl m kap top pr st bu bl q cb pl p cp ul u cu ai fx gc gf] W fun e w' => e = .returned (.bool (B Z)) ∧ Below W.heap.size W w'))
    (SR : Hid (∀ W, Below w.heap.size w W → Calls Tryz.prog 15 #[SgV sl n cap tl m kap top pr st bu bl q cb pl p cp ul u cu ai fx gc gf] W fun e w' => e = .returned (.bool (B R)) ∧ Below W.heap.size W w'))
    (SM : Hid (∀ W, Below w.heap.size w W → R → (na = 0 ∧ ma = 0) ∨ T → Calls Tryz.prog 16 #[TV sa na ca ta ma ka, TV sl n cap tl m kap] W fun e w' => e = .returned (.bool (B L)) ∧ Below W.heap.size W w')) :
    Calls Tryz.prog 5 #[EnV sa na ca ta ma ka xl x cx op sl n cap tl m kap top pr st bu bl q cb pl p cp ul u cu ai fx gc gf] w fun e w' => e = .returned (.bool (B (EngP (na = 0 ∧ ma = 0) (x = 0) I op R L Z))) ∧ Below w.heap.size w w' := by
  have B0 := Lib.hid (bA0 w (.cells (EnC sa na ca ta ma ka xl x cx op sl n cap tl m kap top pr st bu bl q cb pl p cp ul u cu ai fx gc gf) 48))
  have N0 := Lib.hid (new_at w (.cells (EnC sa na ca ta ma ka xl x cx op sl n cap tl m kap top pr st bu bl q cb pl p cp ul u cu ai fx gc gf) 48))
  have hS : (w.alloc (.cells (EnC sa na ca ta ma ka xl x cx op sl n cap tl m kap top pr st bu bl q cb pl p cp ul u cu ai fx gc gf) 48)).heap.size = w.heap.size + 1 := by simp
  have KC : Hid (∀ W, Below (w.heap.size + 1) (w.alloc (.cells (EnC sa na ca ta ma ka xl x cx op sl n cap tl m kap top pr st bu bl q cb pl p cp ul u cu ai fx gc gf) 48)) W → W.heap[w.heap.size]? = some (.cells (EnC sa na ca ta ma ka xl x cx op sl n cap tl m kap top pr st bu bl q cb pl p cp ul u cu ai fx gc gf) 48)) := fun W hW => (hW.block w.heap.size (by omega)).trans N0.out
  clear N0
  by_cases E : na = 0 ∧ ma = 0
  · have g1 := (len0 E.1).1
    have g2 := (len0 E.2).1
    by_cases hx : x = 0
    case neg =>
      rw [B_no (fun h => hx (h.1 E))]
      have g3 := (len1 hx).2
      clear hx E hT ST SI SZ SR SM
      go_enter Tryz.func5, Tryz.ntmps5
      go_wp2
      go_ret
      exact ⟨rfl, B0.out⟩

    subst hx
    cases op
    · have EQ : B (EngP (na = 0 ∧ ma = 0) (0 = 0) I false R L Z) = B Z := B_iff ⟨fun h => h.2.2.2 rfl, fun h => ⟨fun _ => rfl, fun g => absurd E g, fun g => (by cases g), fun _ => h⟩⟩
      rw [EQ]
      generalize B Z = r at *
      clear E hT ST SI SR SM EQ
      go_enter Tryz.func5, Tryz.ntmps5
      go_wp2_with fail
      refine (SZ.out _ B0.out).mono ?_
      rintro e w1 ⟨rfl, b1⟩
      have D1 := Lib.hid (bT B0.out b1)
      have A1 : Hid (Below (w.heap.size + 1) (w.alloc (.cells (EnC sa na ca ta ma ka xl 0 cx false sl n cap tl m kap top pr st bu bl q cb pl p cp ul u cu ai fx gc gf) 48)) w1) := by rw [← hS]; exact b1
      clear b1
      obtain ⟨c0, c1, c2, c3, c4, c5, c6, c7, c8, c9, c10, c11, c12, c13, c14, c15, c16, cf, cl⟩ := cells17 (KC.out w1 A1.out)
      go_wp2
      go_ret
      exact ⟨rfl, D1.out⟩

    by_cases hR : R
    case neg =>
      rw [B_no (fun h => hR (h.2.2.1 rfl).1)]
      rw [B_no hR] at SR
      clear E hT ST SI SZ SM hR
      go_enter Tryz.func5, Tryz.ntmps5
      go_wp2_with fail
      refine (SR.out _ B0.out).mono ?_
      rintro e w1 ⟨rfl, b1⟩
      have D1 := Lib.hid (bT B0.out b1)
      have A1 : Hid (Below (w.heap.size + 1) (w.alloc (.cells (EnC sa na ca ta ma ka xl 0 cx true sl n cap tl m kap top pr st bu bl q cb pl p cp ul u cu ai fx gc gf) 48)) w1) := by rw [← hS]; exact b1
      clear b1
      obtain ⟨c0, c1, c2, c3, c4, c5, c6, c7, c8, c9, c10, c11, c12, c13, c14, c15, c16, cf, cl⟩ := cells17 (KC.out w1 A1.out)
      go_wp2
      go_ret
      exact ⟨rfl, D1.out⟩

    rw [B_yes hR] at SR
    have SM1 := Lib.hid (fun W hW => SM.out W hW hR (.inl E))
    have EQ : B (EngP (na = 0 ∧ ma = 0) (0 = 0) I true R L Z) = B L := B_iff ⟨fun h => (h.2.2.1 rfl).2, fun h => ⟨fun _ => rfl, fun g => absurd E g, fun _ => ⟨hR, h⟩, fun g => (by cases g)⟩⟩
    rw [EQ]
    generalize B L = r at *
    clear E hT ST SI SZ SM hR EQ
    go_enter Tryz.func5, Tryz.ntmps5
    go_wp2_with fail
    refine (SR.out _ B0.out).mono ?_
    rintro e w1 ⟨rfl, b1⟩
    have D1 := Lib.hid (bT B0.out b1)
    have A1 : Hid (Below (w.heap.size + 1) (w.alloc (.cells (EnC sa na ca ta ma ka xl 0 cx true sl n cap tl m kap top pr st bu bl q cb pl p cp ul u cu ai fx gc gf) 48)) w1) := by rw [← hS]; exact b1
    clear b1
    obtain ⟨c0, c1, c2, c3, c4, c5, c6, c7, c8, c9, c10, c11, c12, c13, c14, c15, c16, cf, cl⟩ := cells17 (KC.out w1 A1.out)
    go_wp2_with fail
    refine (SM1.out _ D1.out).mono ?_
    rintro e w2 ⟨rfl, b2⟩
    have hs1 := A1.out.size
    have D2 := Lib.hid (bT D1.out b2)
    have A2 := Lib.hid (A1.out.trans (b2.mono (by omega)))
    clear b2 hs1 c0 c1 c2 c3 c4 c5 c6 c7 c8 c9 c10 c11 c12 c13 c14 c15 c16 cf cl
    obtain ⟨c0, c1, c2, c3, c4, c5, c6, c7, c8, c9, c10, c11, c12, c13, c14, c15, c16, cf, cl⟩ := cells17 (KC.out w2 A2.out)
    go_wp2
    go_ret
    exact ⟨rfl, D2.out⟩

  by_cases hna : na = 0
  · have hma : ¬ ma = 0 := fun h => E ⟨hna, h⟩
    have g1 := (len0 hna).1
    have g2 := (len1 hma).1
    clear hna hma
    by_cases hTT : T
    case neg =>
      rw [B_no (fun h => hTT (hT (h.2.1 E)))]
      rw [B_no hTT] at ST
      clear E hT hTT SI SZ SR SM
      go_enter Tryz.func5, Tryz.ntmps5
      go_wp2_with fail
      refine (ST.out _ B0.out).mono ?_
      rintro e w1 ⟨rfl, b1⟩
      have D1 := Lib.hid (bT B0.out b1)
      have A1 : Hid (Below (w.heap.size + 1) (w.alloc (.cells (EnC sa na ca ta ma ka xl x cx op sl n cap tl m kap top pr st bu bl q cb pl p cp ul u cu ai fx gc gf) 48)) w1) := by rw [← hS]; exact b1
      clear b1
      obtain ⟨c0, c1, c2, c3, c4, c5, c6, c7, c8, c9, c10, c11, c12, c13, c14, c15, c16, cf, cl⟩ := cells17 (KC.out w1 A1.out)
      go_wp2
      go_ret
      exact ⟨rfl, D1.out⟩

    rw [B_yes hTT] at ST
    by_cases hI : I
    case neg =>
      rw [B_no (fun h => hI (h.2.1 E))]
      rw [B_no hI] at SI
      clear E hT hTT hI SZ SR SM
      go_enter Tryz.func5, Tryz.ntmps5
      go_wp2_with fail
      refine (ST.out _ B0.out).mono ?_
      rintro e w1 ⟨rfl, b1⟩
      have D1 := Lib.hid (bT B0.out b1)
      have A1 : Hid (Below (w.heap.size + 1) (w.alloc (.cells (EnC sa na ca ta ma ka xl x cx op sl n cap tl m kap top pr st bu bl q cb pl p cp ul u cu ai fx gc gf) 48)) w1) := by rw [← hS]; exact b1
      clear b1
      obtain ⟨c0, c1, c2, c3, c4, c5, c6, c7, c8, c9, c10, c11, c12, c13, c14, c15, c16, cf, cl⟩ := cells17 (KC.out w1 A1.out)
      go_wp2_with fail
      refine (SI.out _ D1.out).mono ?_
      rintro e w2 ⟨rfl, b2⟩
      have hs1 := A1.out.size
      have D2 := Lib.hid (bT D1.out b2)
      have A2 := Lib.hid (A1.out.trans (b2.mono (by omega)))
      clear b2 hs1 c0 c1 c2 c3 c4 c5 c6 c7 c8 c9 c10 c11 c12 c13 c14 c15 c16 cf cl
      obtain ⟨c0, c1, c2, c3, c4, c5, c6, c7, c8, c9, c10, c11, c12, c13, c14, c15, c16, cf, cl⟩ := cells17 (KC.out w2 A2.out)
      go_wp2
      go_ret
      exact ⟨rfl, D2.out⟩

    rw [B_yes hI] at SI
    cases op
    · have EQ : B (EngP (na = 0 ∧ ma = 0) (x = 0) I false R L Z) = B Z := B_iff ⟨fun h => h.2.2.2 rfl, fun h => ⟨fun g => absurd g E, fun _ => hI, fun g => (by cases g), fun _ => h⟩⟩
      rw [EQ]
      generalize B Z = r at *
      clear E hT hTT hI SR SM EQ
      go_enter Tryz.func5, Tryz.ntmps5
      go_wp2_with fail
      refine (ST.out _ B0.out).mono ?_
      rintro e w1 ⟨rfl, b1⟩
      have D1 := Lib.hid (bT B0.out b1)
      have A1 : Hid (Below (w.heap.size + 1) (w.alloc (.cells (EnC sa na ca ta ma ka xl x cx false sl n cap tl m kap top pr st bu bl q cb pl p cp ul u cu ai fx gc gf) 48)) w1) := by rw [← hS]; exact b1
      clear b1
      obtain ⟨c0, c1, c2, c3, c4, c5, c6, c7, c8, c9, c10, c11, c12, c13, c14, c15, c16, cf, cl⟩ := cells17 (KC.out w1 A1.out)
      go_wp2_with fail
      refine (SI.out _ D1.out).mono ?_
      rintro e w2 ⟨rfl, b2⟩
      have hs1 := A1.out.size
      have D2 := Lib.hid (bT D1.out b2)
      have A2 := Lib.hid (A1.out.trans (b2.mono (by omega)))
      clear b2 hs1 c0 c1 c2 c3 c4 c5 c6 c7 c8 c9 c10 c11 c12 c13 c14 c15 c16 cf cl
      obtain ⟨c0, c1, c2, c3, c4, c5, c6, c7, c8, c9, c10, c11, c12, c13, c14, c15, c16, cf, cl⟩ := cells17 (KC.out w2 A2.out)
      go_wp2_with fail
      refine (SZ.out _ D2.out).mono ?_
      rintro e w3 ⟨rfl, b3⟩
      have hs2 := A2.out.size
      have D3 := Lib.hid (bT D2.out b3)
      have A3 := Lib.hid (A2.out.trans (b3.mono (by omega)))
      clear b3 hs2 c0 c1 c2 c3 c4 c5 c6 c7 c8 c9 c10 c11 c12 c13 c14 c15 c16 cf cl
      obtain ⟨c0, c1, c2, c3, c4, c5, c6, c7, c8, c9, c10, c11, c12, c13, c14, c15, c16, cf, cl⟩ := cells17 (KC.out w3 A3.out)
      go_wp2
      go_ret
      exact ⟨rfl, D3.out⟩

    by_cases hR : R
    case neg =>
      rw [B_no (fun h => hR (h.2.2.1 rfl).1)]
      rw [B_no hR] at SR
      clear E hT hTT hI SZ SM hR
      go_enter Tryz.func5, Tryz.ntmps5
      go_wp2_with fail
      refine (ST.out _ B0.out).mono ?_
      rintro e w1 ⟨rfl, b1⟩
      have D1 := Lib.hid (bT B0.out b1)
      have A1 : Hid (Below (w.heap.size + 1) (w.alloc (.cells (EnC sa na ca ta ma ka xl x cx true sl n cap tl m kap top pr st bu bl q cb pl p cp ul u cu ai fx gc gf) 48)) w1) := by rw [← hS]; exact b1
      clear b1
      obtain ⟨c0, c1, c2, c3, c4, c5, c6, c7, c8, c9, c10, c11, c12, c13, c14, c15, c16, cf, cl⟩ := cells17 (KC.out w1 A1.out)
      go_wp2_with fail
      refine (SI.out _ D1.out).mono ?_
      rintro e w2 ⟨rfl, b2⟩
      have hs1 := A1.out.size
      have D2 := Lib.hid (bT D1.out b2)
      have A2 := Lib.hid (A1.out.trans (b2.mono (by omega)))
      clear b2 hs1 c0 c1 c2 c3 c4 c5 c6 c7 c8 c9 c10 c11 c12 c13 c14 c15 c16 cf cl
      obtain ⟨c0, c1, c2, c3, c4, c5, c6, c7, c8, c9, c10, c11, c12, c13, c14, c15, c16, cf, cl⟩ := cells17 (KC.out w2 A2.out)
      go_wp2_with fail
      refine (SR.out _ D2.out).mono ?_
      rintro e w3 ⟨rfl, b3⟩
      have hs2 := A2.out.size
      have D3 := Lib.hid (bT D2.out b3)
      have A3 := Lib.hid (A2.out.trans (b3.mono (by omega)))
      clear b3 hs2 c0 c1 c2 c3 c4 c5 c6 c7 c8 c9 c10 c11 c12 c13 c14 c15 c16 cf cl
      obtain ⟨c0, c1, c2, c3, c4, c5, c6, c7, c8, c9, c10, c11, c12, c13, c14, c15, c16, cf, cl⟩ := cells17 (KC.out w3 A3.out)
      go_wp2
      go_ret
      exact ⟨rfl, D3.out⟩

    rw [B_yes hR] at SR
    have SM1 := Lib.hid (fun W hW => SM.out W hW hR (.inr hTT))
    have EQ : B (EngP (na = 0 ∧ ma = 0) (x = 0) I true R L Z) = B L := B_iff ⟨fun h => (h.2.2.1 rfl).2, fun h => ⟨fun g => absurd g E, fun _ => hI, fun _ => ⟨hR, h⟩, fun g => (by cases g)⟩⟩
    rw [EQ]
    generalize B L = r at *
    clear E hT hTT hI SZ SM hR EQ
    go_enter Tryz.func5, Tryz.ntmps5
    go_wp2_with fail
    refine (ST.out _ B0.out).mono ?_
    rintro e w1 ⟨rfl, b1⟩
    have D1 := Lib.hid (bT B0.out b1)
    have A1 : Hid (Below (w.heap.size + 1) (w.alloc (.cells (EnC sa na ca ta ma ka xl x cx true sl n cap tl m kap top pr st bu bl q cb pl p cp ul u cu ai fx gc gf) 48)) w1) := by rw [← hS]; exact b1
    clear b1
    obtain ⟨c0, c1, c2, c3, c4, c5, c6, c7, c8, c9, c10, c11, c12, c13, c14, c15, c16, cf, cl⟩ := cells17 (KC.out w1 A1.out)
    go_wp2_with fail
    refine (SI.out _ D1.out).mono ?_
    rintro e w2 ⟨rfl, b2⟩
    have hs1 := A1.out.size
    have D2 := Lib.hid (bT D1.out b2)
    have A2 := Lib.hid (A1.out.trans (b2.mono (by omega)))
    clear b2 hs1 c0 c1 c2 c3 c4 c5 c6 c7 c8 c9 c10 c11 c12 c13 c14 c15 c16 cf cl
    obtain ⟨c0, c1, c2, c3, c4, c5, c6, c7, c8, c9, c10, c11, c12, c13, c14, c15, c16, cf, cl⟩ := cells17 (KC.out w2 A2.out)
    go_wp2_with fail
    refine (SR.out _ D2.out).mono ?_
    rintro e w3 ⟨rfl, b3⟩
    have hs2 := A2.out.size
    have D3 := Lib.hid (bT D2.out b3)
    have A3 := Lib.hid (A2.out.trans (b3.mono (by omega)))
    clear b3 hs2 c0 c1 c2 c3 c4 c5 c6 c7 c8 c9 c10 c11 c12 c13 c14 c15 c16 cf cl
    obtain ⟨c0, c1, c2, c3, c4, c5, c6, c7, c8, c9, c10, c11, c12, c13, c14, c15, c16, cf, cl⟩ := cells17 (KC.out w3 A3.out)
    go_wp2_with fail
    refine (SM1.out _ D3.out).mono ?_
    rintro e w4 ⟨rfl, b4⟩
    have hs3 := A3.out.size
    have D4 := Lib.hid (bT D3.out b4)
    have A4 := Lib.hid (A3.out.trans (b4.mono (by omega)))
    clear b4 hs3 c0 c1 c2 c3 c4 c5 c6 c7 c8 c9 c10 c11 c12 c13 c14 c15 c16 cf cl
    obtain ⟨c0, c1, c2, c3, c4, c5, c6, c7, c8, c9, c10, c11, c12, c13, c14, c15, c16, cf, cl⟩ := cells17 (KC.out w4 A4.out)
    go_wp2
    go_ret
    exact ⟨rfl, D4.out⟩

  · have g1 := (len1 hna).1
    clear hna
    by_cases hTT : T
    case neg =>
      rw [B_no (fun h => hTT (hT (h.2.1 E)))]
      rw [B_no hTT] at ST
      clear E hT hTT SI SZ SR SM
      go_enter Tryz.func5, Tryz.ntmps5
      go_wp2_with fail
      refine (ST.out _ B0.out).mono ?_
      rintro e w1 ⟨rfl, b1⟩
      have D1 := Lib.hid (bT B0.out b1)
      have A1 : Hid (Below (w.heap.size + 1) (w.alloc (.cells (EnC sa na ca ta ma ka xl x cx op sl n cap tl m kap top pr st bu bl q cb pl p cp ul u cu ai fx gc gf) 48)) w1) := by rw [← hS]; exact b1
      clear b1
      obtain ⟨c0, c1, c2, c3, c4, c5, c6, c7, c8, c9, c10, c11, c12, c13, c14, c15, c16, cf, cl⟩ := cells17 (KC.out w1 A1.out)
      go_wp2
      go_ret
      exact ⟨rfl, D1.out⟩

    rw [B_yes hTT] at ST
    by_cases hI : I
    case neg =>
      rw [B_no (fun h => hI (h.2.1 E))]
      rw [B_no hI] at SI
      clear E hT hTT hI SZ SR SM
      go_enter Tryz.func5, Tryz.ntmps5
      go_wp2_with fail
      refine (ST.out _ B0.out).mono ?_
      rintro e w1 ⟨rfl, b1⟩
      have D1 := Lib.hid (bT B0.out b1)
      have A1 : Hid (Below (w.heap.size + 1) (w.alloc (.cells (EnC sa na ca ta ma ka xl x cx op sl n cap tl m kap top pr st bu bl q cb pl p cp ul u cu ai fx gc gf) 48)) w1) := by rw [← hS]; exact b1
      clear b1
      obtain ⟨c0, c1, c2, c3, c4, c5, c6, c7, c8, c9, c10, c11, c12, c13, c14, c15, c16, cf, cl⟩ := cells17 (KC.out w1 A1.out)
      go_wp2_with fail
      refine (SI.out _ D1.out).mono ?_
      rintro e w2 ⟨rfl, b2⟩
      have hs1 := A1.out.size
      have D2 := Lib.hid (bT D1.out b2)
      have A2 := Lib.hid (A1.out.trans (b2.mono (by omega)))
      clear b2 hs1 c0 c1 c2 c3 c4 c5 c6 c7 c8 c9 c10 c11 c12 c13 c14 c15 c16 cf cl
      obtain ⟨c0, c1, c2, c3, c4, c5, c6, c7, c8, c9, c10, c11, c12, c13, c14, c15, c16, cf, cl⟩ := cells17 (KC.out w2 A2.out)
      go_wp2
      go_ret
      exact ⟨rfl, D2.out⟩

    rw [B_yes hI] at SI
    cases op
    · have EQ : B (EngP (na = 0 ∧ ma = 0) (x = 0) I false R L Z) = B Z := B_iff ⟨fun h => h.2.2.2 rfl, fun h => ⟨fun g => absurd g E, fun _ => hI, fun g => (by cases g), fun _ => h⟩⟩
      rw [EQ]
      generalize B Z = r at *
      clear E hT hTT hI SR SM EQ
      go_enter Tryz.func5, Tryz.ntmps5
      go_wp2_with fail
      refine (ST.out _ B0.out).mono ?_
      rintro e w1 ⟨rfl, b1⟩
      have D1 := Lib.hid (bT B0.out b1)
      have A1 : Hid (Below (w.heap.size + 1) (w.alloc (.cells (EnC sa na ca ta ma ka xl x cx false sl n cap tl m kap top pr st bu bl q cb pl p cp ul u cu ai fx gc gf) 48)) w1) := by rw [← hS]; exact b1
      clear b1
      obtain ⟨c0, c1, c2, c3, c4, c5, c6, c7, c8, c9, c10, c11, c12, c13, c14, c15, c16, cf, cl⟩ := cells17 (KC.out w1 A1.out)
      go_wp2_with fail
      refine (SI.out _ D1.out).mono ?_
      rintro e w2 ⟨rfl, b2⟩
      have hs1 := A1.out.size
      have D2 := Lib.hid (bT D1.out b2)
      have A2 := Lib.hid (A1.out.trans (b2.mono (by omega)))
      clear b2 hs1 c0 c1 c2 c3 c4 c5 c6 c7 c8 c9 c10 c11 c12 c13 c14 c15 c16 cf cl
      obtain ⟨c0, c1, c2, c3, c4, c5, c6, c7, c8, c9, c10, c11, c12, c13, c14, c15, c16, cf, cl⟩ := cells17 (KC.out w2 A2.out)
      go_wp2_with fail
      refine (SZ.out _ D2.out).mono ?_
      rintro e w3 ⟨rfl, b3⟩
      have hs2 := A2.out.size
      have D3 := Lib.hid (bT D2.out b3)
      have A3 := Lib.hid (A2.out.trans (b3.mono (by omega)))
      clear b3 hs2 c0 c1 c2 c3 c4 c5 c6 c7 c8 c9 c10 c11 c12 c13 c14 c15 c16 cf cl
      obtain ⟨c0, c1, c2, c3, c4, c5, c6, c7, c8, c9, c10, c11, c12, c13, c14, c15, c16, cf, cl⟩ := cells17 (KC.out w3 A3.out)
      go_wp2
      go_ret
      exact ⟨rfl, D3.out⟩

    by_cases hR : R
    case neg =>
      rw [B_no (fun h => hR (h.2.2.1 rfl).1)]
      rw [B_no hR] at SR
      clear E hT hTT hI SZ SM hR
      go_enter Tryz.func5, Tryz.ntmps5
      go_wp2_with fail
      refine (ST.out _ B0.out).mono ?_
      rintro e w1 ⟨rfl, b1⟩
      have D1 := Lib.hid (bT B0.out b1)
      have A1 : Hid (Below (w.heap.size + 1) (w.alloc (.cells (EnC sa na ca ta ma ka xl x cx true sl n cap tl m kap top pr st bu bl q cb pl p cp ul u cu ai fx gc gf) 48)) w1) := by rw [← hS]; exact b1
      clear b1
      obtain ⟨c0, c1, c2, c3, c4, c5, c6, c7, c8, c9, c10, c11, c12, c13, c14, c15, c16, cf, cl⟩ := cells17 (KC.out w1 A1.out)
      go_wp2_with fail
      refine (SI.out _ D1.out).mono ?_
      rintro e w2 ⟨rfl, b2⟩
      have hs1 := A1.out.size
      have D2 := Lib.hid (bT D1.out b2)
      have A2 := Lib.hid (A1.out.trans (b2.mono (by omega)))
      clear b2 hs1 c0 c1 c2 c3 c4 c5 c6 c7 c8 c9 c10 c11 c12 c13 c14 c15 c16 cf cl
      obtain ⟨c0, c1, c2, c3, c4, c5, c6, c7, c8, c9, c10, c11, c12, c13, c14, c15, c16, cf, cl⟩ := cells17 (KC.out w2 A2.out)
      go_wp2_with fail
      refine (SR.out _ D2.out).mono ?_
      rintro e w3 ⟨rfl, b3⟩
      have hs2 := A2.out.size
      have D3 := Lib.hid (bT D2.out b3)
      have A3 := Lib.hid (A2.out.trans (b3.mono (by omega)))
      clear b3 hs2 c0 c1 c2 c3 c4 c5 c6 c7 c8 c9 c10 c11 c12 c13 c14 c15 c16 cf cl
      obtain ⟨c0, c1, c2, c3, c4, c5, c6, c7, c8, c9, c10, c11, c12, c13, c14, c15, c16, cf, cl⟩ := cells17 (KC.out w3 A3.out)
      go_wp2
      go_ret
      exact ⟨rfl, D3.out⟩

    rw [B_yes hR] at SR
    have SM1 := Lib.hid (fun W hW => SM.out W hW hR (.inr hTT))
    have EQ : B (EngP (na = 0 ∧ ma = 0) (x = 0) I true R L Z) = B L := B_iff ⟨fun h => (h.2.2.1 rfl).2, fun h => ⟨fun g => absurd g E, fun _ => hI, fun _ => ⟨hR, h⟩, fun g => (by cases g)⟩⟩
    rw [EQ]
    generalize B L = r at *
    clear E hT hTT hI SZ SM hR EQ
    go_enter Tryz.func5, Tryz.ntmps5
    go_wp2_with fail
    refine (ST.out _ B0.out).mono ?_
    rintro e w1 ⟨rfl, b1⟩
    have D1 := Lib.hid (bT B0.out b1)
    have A1 : Hid (Below (w.heap.size + 1) (w.alloc (.cells (EnC sa na ca ta ma ka xl x cx true sl n cap tl m kap top pr st bu bl q cb pl p cp ul u cu ai fx gc gf) 48)) w1) := by rw [← hS]; exact b1
    clear b1
    obtain ⟨c0, c1, c2, c3, c4, c5, c6, c7, c8, c9, c10, c11, c12, c13, c14, c15, c16, cf, cl⟩ := cells17 (KC.out w1 A1.out)
    go_wp2_with fail
    refine (SI.out _ D1.out).mono ?_
    rintro e w2 ⟨rfl, b2⟩
    have hs1 := A1.out.size
    have D2 := Lib.hid (bT D1.out b2)
    have A2 := Lib.hid (A1.out.trans (b2.mono (by omega)))
    clear b2 hs1 c0 c1 c2 c3 c4 c5 c6 c7 c8 c9 c10 c11 c12 c13 c14 c15 c16 cf cl
    obtain ⟨c0, c1, c2, c3, c4, c5, c6, c7, c8, c9, c10, c11, c12, c13, c14, c15, c16, cf, cl⟩ := cells17 (KC.out w2 A2.out)
    go_wp2_with fail
    refine (SR.out _ D2.out).mono ?_
    rintro e w3 ⟨rfl, b3⟩
    have hs2 := A2.out.size
    have D3 := Lib.hid (bT D2.out b3)
    have A3 := Lib.hid (A2.out.trans (b3.mono (by omega)))
    clear b3 hs2 c0 c1 c2 c3 c4 c5 c6 c7 c8 c9 c10 c11 c12 c13 c14 c15 c16 cf cl
    obtain ⟨c0, c1, c2, c3, c4, c5, c6, c7, c8, c9, c10, c11, c12, c13, c14, c15, c16, cf, cl⟩ := cells17 (KC.out w3 A3.out)
    go_wp2_with fail
    refine (SM1.out _ D3.out).mono ?_
    rintro e w4 ⟨rfl, b4⟩
    have hs3 := A3.out.size
    have D4 := Lib.hid (bT D3.out b4)
    have A4 := Lib.hid (A3.out.trans (b4.mono (by omega)))
    clear b4 hs3 c0 c1 c2 c3 c4 c5 c6 c7 c8 c9 c10 c11 c12 c13 c14 c15 c16 cf cl
    obtain ⟨c0, c1, c2, c3, c4, c5, c6, c7, c8, c9, c10, c11, c12, c13, c14, c15, c16, cf, cl⟩ := cells17 (KC.out w4 A4.out)
    go_wp2
    go_ret
    exact ⟨rfl, D4.out⟩


end Go.Proofs.YtdbebcigikbjgaaGreat
namespace Go.Proofs.YtdbebcigikbjgaaGreat
open Go.RowKit
set_option linter.unusedVariables false

theorem ld_row {w : World} {g : Nat} {t ty : TypeId} {cs : Array Value} {fs : Array Field} (hg : w.heap[g]? = some (.cells cs t)) (hu : Tryz.prog.underlying ty = some (.struct fs)) (hi : (Tryz.prog.info? ty).map (·.size) = some cs.size) :
    Sem.run Tryz.prog (Instr.loadAt ty (.pointer (some ⟨g, 0, none⟩))) w = .ok (.agg cs) w := by
  simp only [Instr.loadAt, Instr.sureAddr, Sem.run_bind, Sem.run_pure, Result.andThen_ok, run_loadVar_row (P := Tryz.prog) w g t ty cs (0, 0) _ hg hu rfl hi]

set_option maxRecDepth 100000 in
set_option maxHeartbeats 4000000 in
theorem law_of (cs : Array Value) (hcs : cs.size = 17) (OP : Array Value → Nat → World → Prop) (z : Int) (hz : ¬ z < 0) (r : Bool) (w : World)
    (hd : Hid (∀ ds C W, OP ds C W → ds.size = 17 ∧ ds.all (·.oneCell') = true))
    (hb : Hid (∀ ds C W W', OP ds C W → Below W.heap.size W W' → OP ds C W'))
    (SZ : Hid (∀ W, Below w.heap.size w W → Calls Tryz.prog 4 #[.agg cs, .int .i64 1048576] W fun e w' => e = .returned (.int .i64 z) ∧ Below W.heap.size W w'))
    (TO : Hid (∀ W, Below w.heap.size w W → Calls Tryz.prog 6 #[.agg cs] W fun e w' => ∃ ds, e = .returned (.agg ds) ∧ OP ds W.heap.size w' ∧ Below W.heap.size W w'))
    (SP : Hid (∀ ds C W, OP ds C W → Calls Tryz.prog 5 #[.agg ds] W fun e w' => e = .returned (.bool r) ∧ Below W.heap.size W w'))
    (IM : Hid (∀ ds C W, OP ds C W → Calls Tryz.prog 7 #[.agg ds] W fun e w' => e = .returned (.bool r) ∧ Below W.heap.size W w'))
    (TE : Hid (∀ ds es C D W, OP ds C W → OP es D W → Calls Tryz.prog 8 #[.agg ds, .agg es] W fun e w' => e = .returned (.bool true) ∧ Below W.heap.size W w')) :
    Calls Tryz.prog 3 #[.agg cs] w fun e w' => e = .returned (.bool true) ∧ Below w.heap.size w w' := by
  have I34 := Lib.hid (show (Tryz.prog.info? 34).map (·.size) = some cs.size by rw [hcs]; kernel_rfl)
  have hrr : (r != r) = false := by simp
  have B0 := Lib.hid (bA0 w (.cells cs 34))
  have hw0 : (w.alloc (.cells cs 34)).heap.size = w.heap.size + 1 := by simp
  have KT : Hid (∀ W, Below (w.heap.size + 1) (w.alloc (.cells cs 34)) W → W.heap[w.heap.size]? = some (.cells cs 34)) := fun W hW => (hW.block w.heap.size (by omega)).trans (heap_alloc_last _ _)
  clear hcs
  go_enter Tryz.func3, Tryz.ntmps3
  go_wp2_with (refine wpList_load_row rfl 34 _ rfl w.heap.size rfl 34 cs (0, 0) _ (heap_alloc_last _ _) Tryz.underlying34 rfl I34.out ?_)
  refine (SZ.out _ (bA0 _ _)).mono ?_
  rintro e w1 ⟨rfl, b1⟩
  generalize w.alloc (.cells cs 34) = wA at *
  have A1 : Hid (Below (w.heap.size + 1) wA w1) := by rw [← hw0]; exact b1
  have D1 := Lib.hid (bT B0.out b1)
  clear b1 SZ
  have H1 := Lib.hid (KT.out _ A1.out)
  have hs1 := A1.out.size
  go_wp2_with (refine wpList_load_row rfl 34 _ rfl w.heap.size rfl 34 cs (0, 0) _ H1.out Tryz.underlying34 rfl I34.out ?_)
  refine (TO.out _ D1.out).mono ?_
  rintro e w2 ⟨d1, rfl, o1, bl2⟩
  have D2 := Lib.hid (bT D1.out bl2)
  have A2 := Lib.hid (A1.out.trans (bl2.mono (by omega)))
  have T2 := Lib.hid (SP.out d1 _ w2 o1)
  have hs2 := A2.out.size
  clear o1 bl2 A1 D1 H1 hs1
  go_wp2_with fail
  refine T2.out.mono ?_
  rintro e w3 ⟨rfl, bl3⟩
  have D3 := Lib.hid (bT D2.out bl3)
  have A3 := Lib.hid (A2.out.trans (bl3.mono (by omega)))
  clear bl3 T2 A2 D2 hs2
  have H3 := Lib.hid (KT.out _ A3.out)
  have hs3 := A3.out.size
  go_wp2_with (refine wpList_load_row rfl 34 _ rfl w.heap.size rfl 34 cs (0, 0) _ H3.out Tryz.underlying34 rfl I34.out ?_)
  refine (TO.out _ D3.out).mono ?_
  rintro e w4 ⟨ds, rfl, o2, bl4⟩
  obtain ⟨n4, l4⟩ := hd.out _ _ _ o2
  have I48 := Lib.hid (show (Tryz.prog.info? 48).map (·.size) = some ds.size by rw [n4]; kernel_rfl)
  have D4 := Lib.hid (bT D3.out bl4)
  have A4 := Lib.hid (A3.out.trans (bl4.mono (by omega)))
  have O5 := Lib.hid (hb.out _ _ _ _ o2 (bA0 w4 (.cells ds 48)))
  have X5 := Lib.hid (heap_alloc_last w4 (.cells ds 48))
  have D5 := Lib.hid (bA D4.out (.cells ds 48))
  have hs4 := A4.out.size
  have A5 := Lib.hid (A4.out.trans ((bA0 w4 (.cells ds 48)).mono (by omega)))
  have NZ := Lib.hid n4
  have LZ := Lib.hid l4
  have yl : w4.heap.size < (w4.alloc (.cells ds 48)).heap.size := by simp
  clear o2 bl4 A3 D3 A4 D4 n4 l4 H3 hs3
  go_wp2_with (first | (refine wpList_store_row rfl 48 _ _ rfl w4.heap.size ds rfl rfl 48 _ (heap_alloc_last _ _) I48.out (by rw [NZ.out]; rfl) LZ.out ?_; rw [World.setRow_alloc_new]) | (refine wpList_load_row rfl 48 _ rfl w4.heap.size rfl 48 ds (0, 0) _ X5.out Tryz.underlying48 rfl I48.out ?_))
  generalize w4.alloc (.cells ds 48) = w5 at *
  refine (IM.out ds _ w5 O5.out).mono ?_
  rintro e w6 ⟨rfl, bl6⟩
  have D6 := Lib.hid (bT D5.out bl6)
  have hs5 := A5.out.size
  have A6 := Lib.hid (A5.out.trans (bl6.mono (by omega)))
  have O6 := Lib.hid (hb.out _ _ _ _ O5.out bl6)
  have X6 := Lib.hid ((bl6.block _ yl).trans X5.out)
  have L6 := Lib.hid (Nat.lt_of_lt_of_le yl bl6.size)
  clear bl6 O5 X5 A5 D5 IM SP yl
  have hs6 := A6.out.size
  have KX : Hid (∀ W, Below w6.heap.size w6 W → W.heap[w.heap.size]? = some (.cells cs 34) ∧ W.heap[w4.heap.size]? = some (.cells ds 48)) := fun W hW => ⟨KT.out W (A6.out.trans (hW.mono (by omega))), (hW.block _ L6.out).trans X6.out⟩
  go_wp2_with fail
  refine wp_region_held_drew (S := fun W => W.heap[w.heap.size]? = some (.cells cs 34) ∧ W.heap[w4.heap.size]? = some (.cells ds 48)) (by kernel_rfl) ?_ (fun hHeld => ?_)
  · exact KX.out _ (Below.refl _ _).drew
  refine wpAnyH_take (i := 0) (oi := _) (v := ?_) rfl (by kernel_rfl) (by kernel_rfl) (by kernel_rfl) (fun _ _ _ h => h) (Or.inl ⟨by rfl, ?_⟩) (by assumption) ?_
  rotate_left
  · intro W hSw
    (try dsimp only at hSw)
    have E := ld_row (g := w4.heap.size) hSw.2 Tryz.underlying48 I48.out
    unfold execOp
    simp only [List.getElem_toArray, List.getElem_cons_zero]
    rw [Sem.run_bind]
    refine (congrArg (fun q => Result.andThen q _) (show Sem.run Tryz.prog (Instr.loadAt 48 _) W = _ from E)).trans ?_
    rfl
  try simp only [Act.put, List.setIfInBounds_toArray, List.set_cons_zero, List.set_cons_succ, List.getElem_toArray, List.getElem_cons_zero]
  refine wpAnyH_take (i := 1) (oi := _) (v := ?_) rfl (by kernel_rfl) (by kernel_rfl) (by kernel_rfl) (fun _ _ _ h => h) (Or.inl ⟨by rfl, ?_⟩) (by assumption) ?_
  rotate_left
  · intro W hSw
    (try dsimp only at hSw)
    have E := ld_row (g := w.heap.size) hSw.1 Tryz.underlying34 I34.out
    unfold execOp
    simp only [List.getElem_toArray, List.getElem_cons_zero, List.getElem_cons_succ]
    rw [Sem.run_bind]
    refine (congrArg (fun q => Result.andThen q _) (show Sem.run Tryz.prog (Instr.loadAt 34 _) W = _ from E)).trans ?_
    rfl
  try simp only [Act.put, List.setIfInBounds_toArray, List.set_cons_zero, List.set_cons_succ, List.getElem_toArray, List.getElem_cons_succ, List.getElem_cons_zero]
  refine wpAnyH_ready (rs := [2]) (by kernel_rfl) (by simp) ?_
  refine AllReadyH.cons rfl (fun K hK => ?_) AllReadyH.nil
  go_simp
  go_wp2_with (go_at_call 6; refine (TO.out _ D6.out.drew).mono ?_; rintro e w7 ⟨es, rfl, o3, bl7⟩)
  have D7 : Hid (Below w6.heap.size w6 w7) := bT ((Below.refl w6.heap.size w6).drew) bl7
  have O7 := Lib.hid o3
  clear bl7 o3
  refine hK.out _ _ ?_ (fun hHeld => ?_)
  · exact KX.out _ D7.out
  clear hK K
  refine wpAnyH_ready (rs := [3]) (by kernel_rfl) (by simp) ?_
  refine AllReadyH.cons rfl (fun K hK => ?_) AllReadyH.nil
  go_simp
  go_wp2_with (go_at_call 8; refine (TE.out ds es _ _ _ (hb.out _ _ _ _ O6.out D7.out) O7.out).mono ?_; rintro e w8 ⟨rfl, bl8⟩)
  have D8 : Hid (Below w6.heap.size w6 w8) := bT D7.out bl8
  clear bl8
  refine hK.out _ _ ?_ (fun hHeld => ?_)
  · exact KX.out _ D8.out
  clear hK K
  refine wpAnyH_take (i := 4) (oi := _) (v := ?_) rfl (by kernel_rfl) (by kernel_rfl) (by kernel_rfl) (fun _ _ _ h => h) (Or.inl ⟨by rfl, ?_⟩) (by assumption) ?_
  rotate_left
  · first | (intro w hSw; (try dsimp only at hSw); go_simp; done) | (intro w hSw; (try dsimp only at hSw); go_simp; with_reducible rfl)
  try simp only [Act.put, List.setIfInBounds_toArray, List.set_cons_zero, List.set_cons_succ, List.getElem_toArray, List.getElem_cons_succ, List.getElem_cons_zero]
  refine wpAnyH_done (by kernel_rfl) ?_ _
  have D9 := Lib.hid (bT D6.out D8.out)
  clear D8 D7 KX O7 TE TO O6 A6
  go_wp2
  go_ret
  exact ⟨rfl, D9.out⟩

end Go.Proofs.YtdbebcigikbjgaaGreat
