/-
  THE LAWS' TABLES: their sizes.
-/
import Derived.Test.YtanoklpffenljaaGreatDoorAye
namespace Go.Proofs.YtanoklpffenljaaGreatDoor
open Go.RowKit
set_option linter.unusedVariables false

/-- What is left. -/
def lft (m : Int) (n : Nat) : Int := if m - n < 0 then -1 else m - n
set_option maxHeartbeats 400000 in
theorem szI_any (sl : Option Addr) (n cap : Nat) (m : Int) (w : World) (hn : n ≤ maxLen) (h0 : 0 ≤ m) (h1 : m ≤ 1048576) :
    Calls Tryz.prog 34 #[.slice sl n cap, .int .i64 m] w fun e w' => e = .returned (.int .i64 (lft m n)) ∧ Below w.heap.size w w' := by
  unfold maxLen at hn
  unfold lft
  by_cases h : m - n < 0
  · rw [if_pos h]
    go_enter Tryz.func34, Tryz.ntmps34
    go_wp2
    go_ret
    exact ⟨rfl, Below.refl _ _⟩
  · rw [if_neg h]
    go_enter Tryz.func34, Tryz.ntmps34
    go_wp2
    go_ret
    exact ⟨rfl, Below.refl _ _⟩
set_option maxHeartbeats 400000 in
theorem szP_any (sl : Option Addr) (n cap : Nat) (m : Int) (w : World) (hn : n ≤ maxLen) (h0 : 0 ≤ m) (h1 : m ≤ 1048576) :
    Calls Tryz.prog 49 #[.slice sl n cap, .int .i64 m] w fun e w' => e = .returned (.int .i64 (lft m n)) ∧ Below w.heap.size w w' := by
  unfold maxLen at hn
  unfold lft
  by_cases h : m - n < 0
  · rw [if_pos h]
    go_enter Tryz.func49, Tryz.ntmps49
    go_wp2
    go_ret
    exact ⟨rfl, Below.refl _ _⟩
  · rw [if_neg h]
    go_enter Tryz.func49, Tryz.ntmps49
    go_wp2
    go_ret
    exact ⟨rfl, Below.refl _ _⟩
theorem lft_cases (m : Int) (n : Nat) (h0 : 0 ≤ m) : (lft m n = -1 ∧ m < n) ∨ (lft m n = m - n ∧ (n : Int) ≤ m) := by
  unfold lft
  split <;> omega
set_option maxHeartbeats 400000 in
theorem szT_any (x y : Int) (sl : Option Addr) (n cap : Nat) (m : Int) (w : World) (hn : n ≤ maxLen) (h0 : 0 ≤ m) (h1 : m ≤ 1048576) :
    Calls Tryz.prog 89 #[SV x y sl n cap, .int .i64 m] w fun e w' => e = .returned (.int .i64 (lft m n)) ∧ Below w.heap.size w w' := by
  have E := Lib.hid (fun W => szI_any sl n cap m W hn h0 h1)
  rcases lft_cases m n h0 with ⟨e, h⟩ | ⟨e, h⟩
  · rw [e] at E ⊢
    go_enter Tryz.func89, Tryz.ntmps89
    go_wp2_with fail
    refine (E.out _).mono ?_
    rintro e w1 ⟨rfl, b1⟩
    have P := Lib.hid (bT (bA0 w _) b1)
    clear b1
    go_wp2
    go_ret
    exact ⟨rfl, P.out⟩
  · rw [e] at E ⊢
    have hm : ¬ m - n < 0 := by omega
    go_enter Tryz.func89, Tryz.ntmps89
    go_wp2_with fail
    refine (E.out _).mono ?_
    rintro e w1 ⟨rfl, b1⟩
    have P := Lib.hid (bT (bA0 w _) b1)
    clear b1
    go_wp2
    go_ret
    exact ⟨rfl, P.out⟩

def DomIn0 (w : World) (r : LSt) : Prop := ∃ sl cap, r.2.2.1 = .slice sl r.2.2.2.length cap ∧ Ints w sl r.2.2.2 ∧ r.2.2.2.length ≤ maxLen
/-- A slice of stations of whatever size. -/
structure Sts0 (w : World) (sl : Option Addr) (rs : List LSt) : Prop where
  row : rs = [] ∨ ∃ c o, sl = some ⟨c, o, none⟩ ∧ StAt w c o rs
  dom : ∀ r ∈ rs, DomIn0 w r
theorem DomIn0.below {w w' : World} {r : LSt} (h : DomIn0 w r) (hb : Below w.heap.size w w') : DomIn0 w' r := by
  obtain ⟨sl, cap, e, hi, hl⟩ := h
  exact ⟨sl, cap, e, hi.below hb, hl⟩
theorem Sts0.below {w w' : World} {sl : Option Addr} {rs : List LSt} (h : Sts0 w sl rs) (hb : Below w.heap.size w w') : Sts0 w' sl rs := by
  refine ⟨?_, fun r hr => (h.dom r hr).below hb⟩
  rcases h.row with h | ⟨c, o, e, h⟩
  · exact .inl h
  · exact .inr ⟨c, o, e, h.below hb⟩
/-- All channels of all Domains. -/
def totD (rs : List LSt) : Nat := (rs.map fun r => r.2.2.2.length).sum
theorem totD_add (a b : List LSt) : totD (a ++ b) = totD a + totD b := by simp [totD]
theorem totD_take (rs : List LSt) (k : Nat) (h : k < rs.length) : totD (rs.take (k + 1)) = totD (rs.take k) + rs[k].2.2.2.length := by
  rw [show rs.take (k + 1) = rs.take k ++ [rs[k]] by rw [List.take_add_one, List.getElem?_eq_getElem h]; rfl, totD_add]
  rfl
theorem totD_le (rs : List LSt) (k : Nat) : totD (rs.take k) ≤ totD rs := by
  have := congrArg totD (List.take_append_drop k rs)
  rw [totD_add] at this
  omega
theorem totD_mem (rs : List LSt) (r : LSt) (h : r ∈ rs) : r.2.2.2.length ≤ totD rs := by
  induction rs with
  | nil => cases h
  | cons a l ih =>
    rcases List.mem_cons.1 h with rfl | h
    · simp [totD]
    · have := ih h; simp only [totD, List.map_cons, List.sum_cons] at *; omega

set_option maxRecDepth 100000 in
set_option maxHeartbeats 1000000 in
theorem szSS_any (sl : Option Addr) (cap : Nat) (rs : List LSt) (m : Int) (w : World) (hn : rs.length ≤ maxLen) (h0 : 0 ≤ m) (h1 : m ≤ 1048576) (hz : Sts0 w sl rs) :
    Calls Tryz.prog 48 #[.slice sl rs.length cap, .int .i64 m] w fun e w' => e = .returned (.int .i64 (lft m (rs.length + totD rs))) ∧ Below w.heap.size w w' := by
  unfold maxLen at hn
  have HZ := Lib.hid hz
  clear hz
  generalize hN : rs.length = n at *
  have HN := Lib.hid hN
  clear hN
  by_cases hs : m - (n : Int) < 0
  · have F := Lib.hid (show lft m (n + totD rs) = -1 by unfold lft; rw [if_pos]; omega)
    go_enter Tryz.func48, Tryz.ntmps48
    go_wp2
    go_ret
    exact ⟨by rw [F.out]; rfl, Below.refl _ _⟩
  · go_enter Tryz.func48, Tryz.ntmps48
    go_wp2
    go_loopw [1, 5] (fun l i wr => ∃ k : Nat, i = .int .i64 k ∧ k ≤ n ∧ l = .int .i64 (m - n - (totD (rs.take k) : Nat)) ∧ (n : Int) + (totD (rs.take k) : Nat) ≤ m ∧ Hid (Below w.heap.size w wr)) (fun _ i _ => n - (intOf i).toNat)
    case atStart => exact ⟨0, rfl, Nat.zero_le _, by simp [totD], by simp [totD]; omega, Below.refl _ _⟩
    case round =>
      obtain ⟨k, rfl, hk, rfl, hle, H2⟩ := hrel
      have hk0 : (0 : Int) ≤ (k : Int) := by omega
      by_cases c1 : k < n
      · have c1' : (k : Int) < (n : Int) := by omega
        have hlt : k < rs.length := by rw [HN.out]; exact c1
        obtain ⟨c, o, rfl, Z0⟩ : ∃ c o, sl = some ⟨c, o, none⟩ ∧ StAt w c o rs := by
          rcases HZ.out.row with e | h
          · rw [e] at hlt; simp at hlt
          · exact h
        have Z1 := Z0.below H2.out
        obtain ⟨hc0, hc1, hc2⟩ := Z1.cell k hlt
        obtain ⟨sld, capd, ed, -, hdl⟩ := HZ.out.dom rs[k] (List.getElem_mem hlt)
        rw [ed] at hc2
        have E := Lib.hid (fun W => szT_any rs[k].1 rs[k].2.1 sld rs[k].2.2.2.length capd (m - n - (totD (rs.take k) : Nat)) W hdl (by omega) (by omega))
        have T1 := Lib.hid (totD_take rs k hlt)
        have T2 := Lib.hid (totD_le rs (k + 1))
        clear Z0 Z1 ed
        generalize rs[k].1 = x at *
        generalize rs[k].2.1 = y at *
        generalize rs[k].2.2.2.length = q at *
        clear hlt
        unfold maxLen at hdl
        rcases lft_cases (m - n - (totD (rs.take k) : Nat)) q (by omega) with ⟨e, h⟩ | ⟨e, h⟩
        · rw [e] at E
          have F := Lib.hid (show lft m (n + totD rs) = -1 by
            have := T1.out
            have := T2.out
            unfold lft; rw [if_pos]; omega)
          clear T1 T2
          generalize totD (rs.take k) = tk at *
          go_wp2_with fail
          refine (E.out _).mono ?_
          rintro e w5 ⟨rfl, b5⟩
          have D5 := Lib.hid (bT H2.out b5)
          clear b5
          go_wp2
          go_ret
          exact ⟨by rw [F.out]; rfl, D5.out⟩
        · rw [e] at E
          have T3 := T1.out
          clear T1 T2
          have TT : Hid (totD (rs.take (k + 1)) = totD (rs.take k) + q) := T3
          clear T3
          generalize totD (rs.take k) = tk at *
          have hpos : ¬ (m - n - tk - q) < 0 := by omega
          go_wp2_with fail
          refine (E.out _).mono ?_
          rintro e w5 ⟨rfl, b5⟩
          have D5 := Lib.hid (bT H2.out b5)
          clear b5
          go_wp2_with fail
          go_roundw
          case rel => exact ⟨k + 1, by go_num, by omega, by rw [TT.out]; congr 1; omega, by rw [TT.out]; omega, D5⟩
          case measure => simp [intOf]; omega
      · have c1' : ¬ (k : Int) < (n : Int) := by omega
        have F := Lib.hid (show lft m (n + totD rs) = m - n - (totD (rs.take k) : Nat) by
          have e : rs.take k = rs := List.take_of_length_le (by rw [HN.out]; omega)
          rw [e] at hle ⊢
          unfold lft; rw [if_neg] <;> omega)
        go_wp2
        go_ret
        exact ⟨by rw [F.out]; rfl, H2.out⟩

set_option maxRecDepth 100000 in
set_option maxHeartbeats 1000000 in
/-- szTable. -/
theorem szTab_any (sl : Option Addr) (cap : Nat) (sl2 : Option Addr) (np cap2 : Nat) (rs : List LSt) (w : World) (hn : rs.length ≤ maxLen) (hp : np ≤ maxLen) (hz : Sts0 w sl rs) :
    Calls Tryz.prog 18 #[TV sl rs.length cap sl2 np cap2, .int .i64 1048576] w fun e w' => e = .returned (.int .i64 (lft 1048576 (rs.length + totD rs + np))) ∧ Below w.heap.size w w' := by
  have E1 := Lib.hid (szSS_any sl cap rs 1048576 (w.alloc (.cells #[.slice sl rs.length cap, .slice sl2 np cap2] 25)) hn (by omega) (by omega) (hz.below (bA0 _ _)))
  have B0 := Lib.hid (bA0 w (.cells #[.slice sl rs.length cap, .slice sl2 np cap2] 25))
  unfold maxLen at hp hn
  clear hz
  rcases lft_cases 1048576 (rs.length + totD rs) (by omega) with ⟨e, h⟩ | ⟨e, h⟩
  · rw [e] at E1
    have F := Lib.hid (show lft 1048576 (rs.length + totD rs + np) = -1 by unfold lft; rw [if_pos]; omega)
    clear e h
    generalize rs.length = n at *
    go_enter Tryz.func18, Tryz.ntmps18
    go_wp2_with fail
    refine E1.out.mono ?_
    rintro e w1 ⟨rfl, b1⟩
    have D1 := Lib.hid (bT B0.out b1)
    clear b1
    go_wp2
    go_ret
    exact ⟨by rw [F.out]; rfl, D1.out⟩
  · rw [e] at E1
    have E2 := Lib.hid (fun W => szP_any sl2 np cap2 (1048576 - ((rs.length + totD rs : Nat) : Int)) W (by unfold maxLen; omega) (by omega) (by omega))
    have hneg : ¬ (1048576 - ((rs.length + totD rs : Nat) : Int)) < 0 := by omega
    have F := Lib.hid (show lft 1048576 (rs.length + totD rs + np) = lft (1048576 - ((rs.length + totD rs : Nat) : Int)) np by
      unfold lft
      by_cases h : (1048576 - ((rs.length + totD rs : Nat) : Int)) - np < 0
      · rw [if_pos h, if_pos (by omega)]
      · rw [if_neg h, if_neg (by omega)]; omega)
    rw [F.out]
    clear e F
    have LC := lft_cases (1048576 - ((rs.length + totD rs : Nat) : Int)) np (by omega)
    generalize rs.length + totD rs = s at *
    generalize rs.length = n at *
    have TA := Lib.hid (show (w.alloc (.cells #[.slice sl n cap, .slice sl2 np cap2] 25)).heap[w.heap.size]? = some (.cells #[.slice sl n cap, .slice sl2 np cap2] 25) by show (w.heap.push _)[w.heap.size]? = _; simp)
    have KC : Hid (∀ W, Below (w.heap.size + 1) (w.alloc (.cells #[.slice sl n cap, .slice sl2 np cap2] 25)) W → W.cell? ⟨w.heap.size, 1, none⟩ = some (.slice sl2 np cap2)) := fun W hW => by
      have := (hW.block w.heap.size (by omega)).trans TA.out
      simp [World.cell?, this]
    generalize lft (1048576 - (s : Int)) np = z at *
    go_enter Tryz.func18, Tryz.ntmps18
    go_wp2_with fail
    refine E1.out.mono ?_
    rintro e w1 ⟨rfl, b1⟩
    have D1 := Lib.hid (bT B0.out b1)
    have c1 := KC.out _ (by have := b1; simpa using this)
    clear b1
    go_wp2_with fail
    refine (E2.out _).mono ?_
    rintro e w2 ⟨rfl, b2⟩
    have D2 := Lib.hid (bT D1.out b2)
    clear b2
    rcases LC with ⟨rfl, h9⟩ | ⟨hz9, h9⟩
    · go_wp2
      go_ret
      exact ⟨rfl, D2.out⟩
    · have hz0 : ¬ z < 0 := by omega
      clear hz9
      go_wp2
      go_ret
      exact ⟨rfl, D2.out⟩

end Go.Proofs.YtanoklpffenljaaGreatDoor
