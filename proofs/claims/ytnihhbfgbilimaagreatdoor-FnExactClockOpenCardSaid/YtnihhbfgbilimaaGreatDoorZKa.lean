import Derived.Test.YtnihhbfgbilimaaGreatDoorKHad
import Derived.Test.YtnihhbfgbilimaaGreatDoorZHe
namespace Go.Proofs.YtnihhbfgbilimaaGreatDoor
open Go.RowKit
set_option linter.unusedVariables false
open List (setIfInBounds_toArray set_cons_zero set_cons_succ getElem_toArray getElem_cons_succ getElem_cons_zero)
set_option maxHeartbeats 1000000 in
theorem to_some (c o cap : Nat) (zs : List Int) (w : World) (hn : zs.length ≤ 1048576) (hz : IntsAt w c o zs) :
  Calls Tryz.prog 20 #[.slice (some ⟨c, o, none⟩) zs.length cap] w fun e w' => e = .returned (.slice (some ⟨w.heap.size, 0, none⟩) zs.length zs.length) ∧ IntsAt w' w.heap.size 0 zs ∧ Below w.heap.size w w' := by
 have hmk := make64 zs.length hn
 have HZ : Hid (IntsAt w c o zs) := hz
 have HK : Hid (mk64 zs.length = vsOf zs 0) := mk64_eq zs
 clear hz
 generalize hN : zs.length = n at *
 have HN : Hid (zs.length = n) := hN
 clear hN
 go_enter Tryz.func20, Tryz.ntmps20
 go_wp2
 go_loopw [4] (fun i wr => ∃ (k : Nat), i = .int .i64 k ∧ k ≤ n ∧ Hid (Below w.heap.size w wr) ∧ Hid (RowAt wr w.heap.size (vsOf zs k))) (fun i _ => n - (intOf i).toNat)
 case atStart =>
  refine ⟨0, rfl, Nat.zero_le _, bA0 _ _, ?_⟩
  show (w.heap.push _)[w.heap.size]? = _
  simp [HK.out]
 case round =>
  obtain ⟨k, rfl, hk, H3, H4⟩ := hrel
  have hk0 : (0 : Int) ≤ (k : Int) := by omega
  by_cases h1 : k < n
  ·have h1' : (k : Int) < (n : Int) := by omega
   have hlt : k < zs.length := by rw [HN.out]; exact h1
   have hc : wr.cell? ⟨c, o + k, none⟩ = some (.int .i64 (zs.getD k 0)) := by
    rw [H3.out.cell HZ.out.1]; exact HZ.out.2 k hlt
   have hd : wr.cell? ⟨w.heap.size, k, none⟩ = some (.int .i64 0) := by rw [H4.out.cell]; exact vs_at zs k hlt
   have hf := H4.out.frozen k
   have H5 : Hid (RowAt (wr.setCell ⟨w.heap.size, k, none⟩ (.int .i64 (zs.getD k 0))) w.heap.size (vsOf zs (k + 1))) := by
    show RowAt _ _ _
    rw [← vs_step zs k hlt]; exact H4.out.set k _
   clear hlt
   generalize zs.getD k 0 = z at *
   go_wp2
   go_roundw
   case rel => exact ⟨k + 1, by go_num, by omega, H3.out.setCell (Nat.le_refl _) _, H5⟩
   case measure => simp [intOf]; omega
  ·have h1' : ¬ (k : Int) < (n : Int) := by omega
   have H6 : Hid (IntsAt wr w.heap.size 0 zs) := H4.out.ints (by rw [HN.out]; omega)
   go_wp2
   go_ret
   exact ⟨rfl, H6.out, H3.out⟩
set_option maxHeartbeats 400000 in
theorem eq_nil (sl sl2 : Option Addr) (cap cap2 : Nat) (w : World) :
  Calls Tryz.prog 24 #[.slice sl 0 cap, .slice sl2 0 cap2] w fun e w' => e = .returned (.bool true) ∧ Below w.heap.size w w' := by
 go_enter Tryz.func24, Tryz.ntmps24
 go_wp2
 refine wp_loop_rounds 1 ?_
 rw [rounds_succ]
 go_wp2
 go_ret
 exact ⟨rfl, Below.refl _ _⟩
set_option maxHeartbeats 1000000 in
theorem eq_some (c o cap c2 o2 cap2 : Nat) (zs : List Int) (w : World) (hn : zs.length ≤ maxLen) (hz : IntsAt w c o zs) (hz2 : IntsAt w c2 o2 zs) :
  Calls Tryz.prog 24 #[.slice (some ⟨c, o, none⟩) zs.length cap, .slice (some ⟨c2, o2, none⟩) zs.length cap2] w fun e w' => e = .returned (.bool true) ∧ Below w.heap.size w w' := by
 unfold maxLen at hn
 have HZ : Hid (IntsAt w c o zs ∧ IntsAt w c2 o2 zs) := ⟨hz, hz2⟩
 clear hz hz2
 generalize hN : zs.length = n at *
 have HN : Hid (zs.length = n) := hN
 clear hN
 go_enter Tryz.func24, Tryz.ntmps24
 go_wp2
 go_loopw [5] (fun i wr => ∃ (k : Nat), i = .int .i64 k ∧ k ≤ n ∧ Hid (Below w.heap.size w wr)) (fun i _ => n - (intOf i).toNat)
 case atStart => exact ⟨0, rfl, Nat.zero_le _, Below.refl _ _⟩
 case round =>
  obtain ⟨k, rfl, hk, H3⟩ := hrel
  have hk0 : (0 : Int) ≤ (k : Int) := by omega
  by_cases h1 : k < n
  ·have h1' : (k : Int) < (n : Int) := by omega
   have hlt : k < zs.length := by rw [HN.out]; exact h1
   have hc : wr.cell? ⟨c, o + k, none⟩ = some (.int .i64 (zs.getD k 0)) := by
    rw [H3.out.cell HZ.out.1.1]; exact HZ.out.1.2 k hlt
   have hd : wr.cell? ⟨c2, o2 + k, none⟩ = some (.int .i64 (zs.getD k 0)) := by
    rw [H3.out.cell HZ.out.2.1]; exact HZ.out.2.2 k hlt
   clear hlt
   generalize zs.getD k 0 = z at *
   go_wp2
   go_quiet (fail)
   go_wp2
   go_roundw
   case rel => exact ⟨k + 1, by go_num, by omega, below_drewN H3.out _⟩
   case measure => simp [intOf]; omega
  ·have h1' : ¬ (k : Int) < (n : Int) := by omega
   go_wp2
   go_ret
   exact ⟨rfl, H3.out⟩
theorem eq_any (sl sl2 : Option Addr) (cap cap2 : Nat) (zs : List Int) (w : World) (hn : zs.length ≤ maxLen) (hz : Ints w sl zs) (hz2 : Ints w sl2 zs) :
  Calls Tryz.prog 24 #[.slice sl zs.length cap, .slice sl2 zs.length cap2] w fun e w' => e = .returned (.bool true) ∧ Below w.heap.size w w' := by
 rcases hz with rfl | ⟨c, o, rfl, h⟩
 ·exact eq_nil sl sl2 cap cap2 w
 ·rcases hz2 with rfl | ⟨c2, o2, rfl, h2⟩
  ·exact eq_nil _ sl2 cap cap2 w
  ·exact eq_some c o cap c2 o2 cap2 zs w hn h h2
end Go.Proofs.YtnihhbfgbilimaaGreatDoor
namespace Go.Proofs.YtnihhbfgbilimaaGreatDoor
open Go.RowKit Go.Maps
set_option linter.unusedVariables false
end Go.Proofs.YtnihhbfgbilimaaGreatDoor
namespace Go.Proofs.YtnihhbfgbilimaaGreatDoor
open Go.RowKit Go.Maps
set_option linter.unusedVariables false
def lft (m : Int) (n : Nat) : Int := if m - n < 0 then -1 else m - n
set_option maxHeartbeats 400000 in
theorem szI_any (sl : Option Addr) (n cap : Nat) (m : Int) (w : World) (hn : n ≤ maxLen) (h0 : 0 ≤ m) (h1 : m ≤ 1048576) :
  Calls Tryz.prog 108 #[.slice sl n cap, .int .i64 m] w fun e w' => e = .returned (.int .i64 (lft m n)) ∧ Below w.heap.size w w' := by
 unfold maxLen at hn
 unfold lft
 by_cases h : m - n < 0
 ·rw [if_pos h]
  go_enter Tryz.func108, Tryz.ntmps108
  go_wp2
  go_ret
  exact ⟨rfl, Below.refl _ _⟩
 ·rw [if_neg h]
  go_enter Tryz.func108, Tryz.ntmps108
  go_wp2
  go_ret
  exact ⟨rfl, Below.refl _ _⟩
set_option maxHeartbeats 400000 in
theorem szP_any (sl : Option Addr) (n cap : Nat) (m : Int) (w : World) (hn : n ≤ maxLen) (h0 : 0 ≤ m) (h1 : m ≤ 1048576) :
  Calls Tryz.prog 69 #[.slice sl n cap, .int .i64 m] w fun e w' => e = .returned (.int .i64 (lft m n)) ∧ Below w.heap.size w w' := by
 unfold maxLen at hn
 unfold lft
 by_cases h : m - n < 0
 ·rw [if_pos h]
  go_enter Tryz.func69, Tryz.ntmps69
  go_wp2
  go_ret
  exact ⟨rfl, Below.refl _ _⟩
 ·rw [if_neg h]
  go_enter Tryz.func69, Tryz.ntmps69
  go_wp2
  go_ret
  exact ⟨rfl, Below.refl _ _⟩
theorem lft_cases (m : Int) (n : Nat) (h0 : 0 ≤ m) : (lft m n = -1 ∧ m < n) ∨ (lft m n = m - n ∧ (n : Int) ≤ m) := by
 unfold lft
 split <;> omega
set_option maxHeartbeats 400000 in
theorem szT_any (x y : Int) (sl : Option Addr) (n cap : Nat) (m : Int) (w : World) (hn : n ≤ maxLen) (h0 : 0 ≤ m) (h1 : m ≤ 1048576) :
  Calls Tryz.prog 130 #[SV x y sl n cap, .int .i64 m] w fun e w' => e = .returned (.int .i64 (lft m n)) ∧ Below w.heap.size w w' := by
 have E := Lib.hid (fun W => szI_any sl n cap m W hn h0 h1)
 rcases lft_cases m n h0 with ⟨e, h⟩ | ⟨e, h⟩
 ·rw [e] at E ⊢
  go_enter Tryz.func130, Tryz.ntmps130
  go_wp2_with fail
  refine (E.out _).mono ?_
  rintro e w1 ⟨rfl, b1⟩
  have P := Lib.hid (bT (bA0 w _) b1)
  clear b1
  go_wp2
  go_ret
  exact ⟨rfl, P.out⟩
 ·rw [e] at E ⊢
  have hm : ¬ m - n < 0 := by omega
  go_enter Tryz.func130, Tryz.ntmps130
  go_wp2_with fail
  refine (E.out _).mono ?_
  rintro e w1 ⟨rfl, b1⟩
  have P := Lib.hid (bT (bA0 w _) b1)
  clear b1
  go_wp2
  go_ret
  exact ⟨rfl, P.out⟩
theorem totD_add (a b : List LSt) : totD (a ++ b) = totD a + totD b := by simp [totD]
theorem totD_take (rs : List LSt) (k : Nat) (h : k < rs.length) : totD (rs.take (k + 1)) = totD (rs.take k) + rs[k].2.2.2.length := by
 rw [show rs.take (k + 1) = rs.take k ++ [rs[k]] by rw [List.take_add_one, List.getElem?_eq_getElem h]; rfl, totD_add]
 rfl
theorem totD_le (rs : List LSt) (k : Nat) : totD (rs.take k) ≤ totD rs := by
 have := congrArg totD (List.take_append_drop k rs)
 rw [totD_add] at this
 omega
set_option maxRecDepth 100000 in
set_option maxHeartbeats 1000000 in
theorem szSS_any (sl : Option Addr) (cap : Nat) (rs : List LSt) (m : Int) (w : World) (hn : rs.length ≤ maxLen) (h0 : 0 ≤ m) (h1 : m ≤ 1048576) (hz : Sts0 w sl rs) :
  Calls Tryz.prog 68 #[.slice sl rs.length cap, .int .i64 m] w fun e w' => e = .returned (.int .i64 (lft m (rs.length + totD rs))) ∧ Below w.heap.size w w' := by
 unfold maxLen at hn
 have HZ := Lib.hid hz
 clear hz
 generalize hN : rs.length = n at *
 have HN := Lib.hid hN
 clear hN
 by_cases hs : m - (n : Int) < 0
 ·have F := Lib.hid (show lft m (n + totD rs) = -1 by unfold lft; rw [if_pos]; omega)
  go_enter Tryz.func68, Tryz.ntmps68
  go_wp2
  go_ret
  exact ⟨by rw [F.out]; rfl, Below.refl _ _⟩
 ·go_enter Tryz.func68, Tryz.ntmps68
  go_wp2
  go_loopw [1, 5] (fun l i wr => ∃ k : Nat, i = .int .i64 k ∧ k ≤ n ∧ l = .int .i64 (m - n - (totD (rs.take k) : Nat)) ∧ (n : Int) + (totD (rs.take k) : Nat) ≤ m ∧ Hid (Below w.heap.size w wr)) (fun _ i _ => n - (intOf i).toNat)
  case atStart => exact ⟨0, rfl, Nat.zero_le _, by simp [totD], by simp [totD]; omega, Below.refl _ _⟩
  case round =>
   obtain ⟨k, rfl, hk, rfl, hle, H2⟩ := hrel
   have hk0 : (0 : Int) ≤ (k : Int) := by omega
   by_cases c1 : k < n
   ·have c1' : (k : Int) < (n : Int) := by omega
    have hlt : k < rs.length := by rw [HN.out]; exact c1
    obtain ⟨c, o, rfl, Z0⟩ : ∃ c o, sl = some ⟨c, o, none⟩ ∧ StAt w c o rs := by
     rcases HZ.out.row with e | h
     ·rw [e] at hlt; simp at hlt
     ·exact h
    have Z1 := Z0.below H2.out
    obtain ⟨hc0, hc1, hc2⟩ := Z1.cell k hlt
    obtain ⟨sld, capd, ed, -, hdl⟩ := HZ.out.dom rs[k] (List.getElem_mem hlt)
    rw [ed] at hc2
    have E := Lib.hid (fun W => szT_any rs[k].1 rs[k].2.1 sld rs[k].2.2.2.length capd (m - n - (totD (rs.take k) : Nat)) W hdl (by omega) (by omega))
    have T1 := Lib.hid (totD_take rs k hlt)
    have T2 := Lib.hid (totD_le rs (k + 1))
    clear Z0 Z1 ed
    generalize rs[k].1 = x at *
    generalize rs[k].2.1 = y at *
    generalize rs[k].2.2.2.length = q at *
    clear hlt
    unfold maxLen at hdl
    rcases lft_cases (m - n - (totD (rs.take k) : Nat)) q (by omega) with ⟨e, h⟩ | ⟨e, h⟩
    ·rw [e] at E
     have F := Lib.hid (show lft m (n + totD rs) = -1 by
      have := T1.out
      have := T2.out
      unfold lft; rw [if_pos]; omega)
     clear T1 T2
     generalize totD (rs.take k) = tk at *
     go_wp2_with fail
     refine (E.out _).mono ?_
     rintro e w5 ⟨rfl, b5⟩
     have D5 := Lib.hid (bT H2.out b5)
     clear b5
     go_wp2
     go_ret
     exact ⟨by rw [F.out]; rfl, D5.out⟩
    ·rw [e] at E
     have T3 := T1.out
     clear T1 T2
     have TT : Hid (totD (rs.take (k + 1)) = totD (rs.take k) + q) := T3
     clear T3
     generalize totD (rs.take k) = tk at *
     have hpos : ¬ (m - n - tk - q) < 0 := by omega
     go_wp2_with fail
     refine (E.out _).mono ?_
     rintro e w5 ⟨rfl, b5⟩
     have D5 := Lib.hid (bT H2.out b5)
     clear b5
     go_wp2_with fail
     go_roundw
     case rel => exact ⟨k + 1, by go_num, by omega, by rw [TT.out]; congr 1; omega, by rw [TT.out]; omega, D5⟩
     case measure => simp [intOf]; omega
   ·have c1' : ¬ (k : Int) < (n : Int) := by omega
    have F := Lib.hid (show lft m (n + totD rs) = m - n - (totD (rs.take k) : Nat) by
     have e : rs.take k = rs := List.take_of_length_le (by rw [HN.out]; omega)
     rw [e] at hle ⊢
     unfold lft; rw [if_neg] <;> omega)
    go_wp2
    go_ret
    exact ⟨by rw [F.out]; rfl, H2.out⟩
set_option maxRecDepth 100000 in
set_option maxHeartbeats 1000000 in
theorem szTab_any (sl : Option Addr) (cap : Nat) (sl2 : Option Addr) (np cap2 : Nat) (rs : List LSt) (w : World) (hn : rs.length ≤ maxLen) (hp : np ≤ maxLen) (hz : Sts0 w sl rs) :
  Calls Tryz.prog 17 #[TV sl rs.length cap sl2 np cap2, .int .i64 1048576] w fun e w' => e = .returned (.int .i64 (lft 1048576 (rs.length + totD rs + np))) ∧ Below w.heap.size w w' := by
 have E1 := Lib.hid (szSS_any sl cap rs 1048576 (w.alloc (.cells #[.slice sl rs.length cap, .slice sl2 np cap2] 46)) hn (by omega) (by omega) (hz.below (bA0 _ _)))
 have B0 := Lib.hid (bA0 w (.cells #[.slice sl rs.length cap, .slice sl2 np cap2] 46))
 unfold maxLen at hp hn
 clear hz
 rcases lft_cases 1048576 (rs.length + totD rs) (by omega) with ⟨e, h⟩ | ⟨e, h⟩
 ·rw [e] at E1
  have F := Lib.hid (show lft 1048576 (rs.length + totD rs + np) = -1 by unfold lft; rw [if_pos]; omega)
  clear e h
  generalize rs.length = n at *
  go_enter Tryz.func17, Tryz.ntmps17
  go_wp2_with fail
  refine E1.out.mono ?_
  rintro e w1 ⟨rfl, b1⟩
  have D1 := Lib.hid (bT B0.out b1)
  clear b1
  go_wp2
  go_ret
  exact ⟨by rw [F.out]; rfl, D1.out⟩
 ·rw [e] at E1
  have E2 := Lib.hid (fun W => szP_any sl2 np cap2 (1048576 - ((rs.length + totD rs : Nat) : Int)) W (by unfold maxLen; omega) (by omega) (by omega))
  have hneg : ¬ (1048576 - ((rs.length + totD rs : Nat) : Int)) < 0 := by omega
  have F := Lib.hid (show lft 1048576 (rs.length + totD rs + np) = lft (1048576 - ((rs.length + totD rs : Nat) : Int)) np by
   unfold lft
   by_cases h : (1048576 - ((rs.length + totD rs : Nat) : Int)) - np < 0
   ·rw [if_pos h, if_pos (by omega)]
   ·rw [if_neg h, if_neg (by omega)]; omega)
  rw [F.out]
  clear e F
  have LC := lft_cases (1048576 - ((rs.length + totD rs : Nat) : Int)) np (by omega)
  generalize rs.length + totD rs = s at *
  generalize rs.length = n at *
  have TA := Lib.hid (show (w.alloc (.cells #[.slice sl n cap, .slice sl2 np cap2] 46)).heap[w.heap.size]? = some (.cells #[.slice sl n cap, .slice sl2 np cap2] 46) by show (w.heap.push _)[w.heap.size]? = _; simp)
  have KC : Hid (∀ W, Below (w.heap.size + 1) (w.alloc (.cells #[.slice sl n cap, .slice sl2 np cap2] 46)) W → W.cell? ⟨w.heap.size, 1, none⟩ = some (.slice sl2 np cap2)) := fun W hW => by
   have := (hW.block w.heap.size (by omega)).trans TA.out
   simp [World.cell?, this]
  generalize lft (1048576 - (s : Int)) np = z at *
  go_enter Tryz.func17, Tryz.ntmps17
  go_wp2_with fail
  refine E1.out.mono ?_
  rintro e w1 ⟨rfl, b1⟩
  have D1 := Lib.hid (bT B0.out b1)
  have c1 := KC.out _ (by have := b1; simpa using this)
  clear b1
  go_wp2_with fail
  refine (E2.out _).mono ?_
  rintro e w2 ⟨rfl, b2⟩
  have D2 := Lib.hid (bT D1.out b2)
  clear b2
  rcases LC with ⟨rfl, h9⟩ | ⟨hz9, h9⟩
  ·go_wp2
   go_ret
   exact ⟨rfl, D2.out⟩
  ·have hz0 : ¬ z < 0 := by omega
   clear hz9
   go_wp2
   go_ret
   exact ⟨rfl, D2.out⟩
set_option maxRecDepth 100000 in
set_option maxHeartbeats 1000000 in
theorem toP_any (a b q : Int) (w : World) : Calls Tryz.prog 137 #[.agg #[.int .i64 a, .int .i64 b, .int .i64 q]] w fun e w' => e = .returned (.agg #[.int .i64 a, .int .i64 b, .int .i64 q]) ∧ Below w.heap.size w w' := by
 go_enter Tryz.func137, Tryz.ntmps137
 go_wp2
 exact bodyPost_ret (v := .agg #[.int .i64 a, .int .i64 b, .int .i64 q]) (by simp [results, Tryz.results137, go_sem]) rfl ⟨rfl, bA (bA (bA0 _ _) _) _⟩
theorem info56 : (Tryz.prog.info? 165).map (fun i => (i.zero, i.size, i.bytes)) = some (some (.agg #[.int .i64 0, .int .i64 0, .int .i64 0]), 3, 24) := by kernel_rfl
theorem info54 : (Tryz.prog.info? 92).map (fun i => (i.zero, i.size, i.bytes)) = some (some (.agg #[.int .i64 0, .int .i64 0, .slice none 0 0]), 3, 40) := by kernel_rfl
theorem make56 (n : Nat) (h : n ≤ 1048576) (w : World) :
  ∃ vs : Array Value, Sem.run Tryz.prog (Instr.makeSlice 24 (.int .i64 (n : Int)) (.int .i64 (n : Int))) w = .ok (.slice (some ⟨w.heap.size, 0, none⟩) n n) (w.alloc (.cells vs 165)) ∧ Row3 (w.alloc (.cells vs 165)) w.heap.size 165 n [] := by
 obtain ⟨i, h1, h2, h3, h4⟩ := info_parts info56
 have := run_make (P := Tryz.prog) w 24 165 i _ Tryz.underlying24 h1 h2 .i64 .i64 (n : Int) (n : Int) (by omega) (Int.le_refl _) (by rw [h4]; omega) (by omega)
 rw [h3] at this
 simp only [Int.toNat_natCast] at this
 exact ⟨_, this, _, new_at _ _, size_madeCells _ _, fun i hi => absurd hi (Nat.not_lt_zero _)⟩
theorem make54 (n : Nat) (h : n ≤ 1048576) (w : World) :
  ∃ vs : Array Value, Sem.run Tryz.prog (Instr.makeSlice 23 (.int .i64 (n : Int)) (.int .i64 (n : Int))) w = .ok (.slice (some ⟨w.heap.size, 0, none⟩) n n) (w.alloc (.cells vs 92)) ∧ Row3 (w.alloc (.cells vs 92)) w.heap.size 92 n [] := by
 obtain ⟨i, h1, h2, h3, h4⟩ := info_parts info54
 have := run_make (P := Tryz.prog) w 23 92 i _ Tryz.underlying23 h1 h2 .i64 .i64 (n : Int) (n : Int) (by omega) (Int.le_refl _) (by rw [h4]; omega) (by omega)
 rw [h3] at this
 simp only [Int.toNat_natCast] at this
 exact ⟨_, this, _, new_at _ _, size_madeCells _ _, fun i hi => absurd hi (Nat.not_lt_zero _)⟩
set_option maxRecDepth 100000 in
set_option maxHeartbeats 1000000 in
theorem toPS_any (sl : Option Addr) (cap : Nat) (ps : List LPr) (w : World) (hn : ps.length ≤ 1048576) (hz : Prs w sl ps) :
  Calls Tryz.prog 75 #[.slice sl ps.length cap] w fun e w' => e = .returned (.slice (some ⟨w.heap.size, 0, none⟩) ps.length ps.length) ∧ Row3 w' w.heap.size 165 ps.length (ps.map prT) ∧ Below w.heap.size w w' := by
 have HZ := Lib.hid hz
 clear hz
 obtain ⟨vs, hmk, hr0⟩ := make56 ps.length hn w
 have R0 := Lib.hid hr0
 clear hr0
 generalize hN : ps.length = n at *
 have HN := Lib.hid hN
 clear hN
 go_enter Tryz.func75, Tryz.ntmps75
 go_wp2
 go_loopw [4] (fun i wr => ∃ k : Nat, i = .int .i64 k ∧ k ≤ n ∧ Hid (Row3 wr w.heap.size 165 n ((ps.take k).map prT)) ∧ Hid (Below w.heap.size w wr)) (fun i _ => n - (intOf i).toNat)
 case atStart => exact ⟨0, rfl, Nat.zero_le _, R0, bA0 _ _⟩
 case round =>
  obtain ⟨k, rfl, hk, R1, H2⟩ := hrel
  have hk0 : (0 : Int) ≤ (k : Int) := by omega
  by_cases c1 : k < n
  ·have c1' : (k : Int) < (n : Int) := by omega
   have hlt : k < ps.length := by rw [HN.out]; exact c1
   obtain ⟨c, o, rfl, Z0⟩ : ∃ c o, sl = some ⟨c, o, none⟩ ∧ PrAt w c o ps := by
    rcases HZ.out with e | h
    ·rw [e] at hlt; simp at hlt
    ·exact h
   have hc0 := (H2.out.cell Z0.lt).trans (Z0.cell k hlt).1
   have hc1 := (H2.out.cell Z0.lt).trans (Z0.cell k hlt).2.1
   have hc2 := (H2.out.cell Z0.lt).trans (Z0.cell k hlt).2.2
   obtain ⟨a, b, q, hp⟩ : ∃ a b q, ps[k] = (a, b, q) := ⟨_, _, _, rfl⟩
   rw [hp] at hc0 hc1 hc2
   dsimp only at hc0 hc1 hc2
   have ET := Lib.hid (show (ps.take (k + 1)).map prT = (ps.take k).map prT ++ [(.int .i64 a, .int .i64 b, .int .i64 q)] by
    rw [List.take_add_one, List.getElem?_eq_getElem hlt, hp]; simp [prT])
   have LT := Lib.hid (show k = ((ps.take k).map prT).length by simp; omega)
   have LN := Lib.hid (show ((ps.take k).map prT).length < n by rw [← LT.out]; exact c1)
   have E := Lib.hid (toP_any a b q)
   clear hp hlt
   go_wp2_with fail
   refine (E.out _).mono ?_
   rintro e w5 ⟨rfl, b5⟩
   have D5 := Lib.hid (bT H2.out b5)
   have R5 := Lib.hid (R1.out.below b5)
   obtain ⟨⟨v0, g0⟩, f0⟩ := R5.out.there (k * 3) (by omega)
   obtain ⟨⟨v1, g1⟩, f1⟩ := R5.out.there (k * 3 + 1) (by omega)
   obtain ⟨⟨v2, g2⟩, f2⟩ := R5.out.there (k * 3 + 2) (by omega)
   have R6 := Lib.hid (R5.out.step LN.out (.int .i64 a) (.int .i64 b) (.int .i64 q) k LT.out)
   rw [← ET.out] at R6
   have D6 : Hid (Below w.heap.size w (((w5.setCell ⟨w.heap.size, k * 3, none⟩ (.int .i64 a)).setCell ⟨w.heap.size, k * 3 + 1, none⟩ (.int .i64 b)).setCell ⟨w.heap.size, k * 3 + 2, none⟩ (.int .i64 q))) := ((D5.out.setCell (Nat.le_refl _) _).setCell (Nat.le_refl _) _).setCell (Nat.le_refl _) _
   clear b5 R1 R5 ET LT LN
   go_wp2_with fail
   go_roundw
   case rel => exact ⟨k + 1, by go_num, by omega, R6, D6⟩
   case measure => simp [intOf]; omega
  ·have c1' : ¬ (k : Int) < (n : Int) := by omega
   have P := Lib.hid (show Row3 wr w.heap.size 165 n (ps.map prT) by have := R1.out; rwa [List.take_of_length_le (by rw [HN.out]; omega)] at this)
   go_wp2
   go_ret
   exact ⟨rfl, P.out, H2.out⟩
def bareS (rs : List LSt) : List (Int × Int × List Int) := rs.map fun r => (r.1, r.2.1, r.2.2.2)
theorem Row3.setLow {w : World} {b : Nat} {t : TypeId} {n : Nat} {ts : List (Value × Value × Value)} (h : Row3 w b t n ts) {b' : Nat} (hb : b' < b) (i : Nat) (v : Value) : Row3 (w.setCell ⟨b', i, none⟩ v) b t n ts := by
 obtain ⟨vs, h1, h2, h3⟩ := h
 exact ⟨vs, (Below.heap_setCell _ _ _ _ (show b ≠ b' by omega)).trans h1, h2, h3⟩
theorem Row3.prs {w : World} {b n : Nat} {ps : List LPr} (h : Row3 w b 165 n (ps.map prT)) : Prs w (some ⟨b, 0, none⟩) ps := by
 refine .inr ⟨b, 0, rfl, h.lt, fun i hi => ?_⟩
 have := h.at i (by simpa using hi)
 simpa [prT] using this
theorem three_new (w : World) (o0 o1 o2 : Obj) : (((w.alloc o0).alloc o1).alloc o2).heap[w.heap.size]? = some o0 ∧ (((w.alloc o0).alloc o1).alloc o2).heap[w.heap.size + 1]? = some o1 ∧ (((w.alloc o0).alloc o1).alloc o2).heap[w.heap.size + 2]? = some o2 ∧ (((w.alloc o0).alloc o1).alloc o2).heap.size = w.heap.size + 3 := by
 have s1 : (w.alloc o0).heap.size = w.heap.size + 1 := by simp
 have s2 : ((w.alloc o0).alloc o1).heap.size = w.heap.size + 2 := by simp
 have a1 := new_at (w.alloc o0) o1
 rw [s1] at a1
 have a2 := new_at ((w.alloc o0).alloc o1) o2
 rw [s2] at a2
 exact ⟨(Below.heap_alloc _ _ _ (by rw [s2]; omega)).trans ((Below.heap_alloc _ _ _ (by rw [s1]; omega)).trans (new_at w o0)), (Below.heap_alloc _ _ _ (by rw [s2]; omega)).trans a1, a2, by simp⟩
theorem bareS_len {a b : List LSt} (h : bareS a = bareS b) : a.length = b.length := by have := congrArg List.length h; simpa [bareS] using this
set_option maxRecDepth 100000 in
set_option maxHeartbeats 1000000 in
theorem eqP_any (a b q : Int) (w : World) : Calls Tryz.prog 143 #[.agg #[.int .i64 a, .int .i64 b, .int .i64 q], .agg #[.int .i64 a, .int .i64 b, .int .i64 q]] w fun e w' => e = .returned (.bool true) ∧ Below w.heap.size w w' := by
 go_enter Tryz.func143, Tryz.ntmps143
 go_wp2
 go_ret
 exact ⟨rfl, bA (bA0 _ _) _⟩
set_option maxRecDepth 100000 in
set_option maxHeartbeats 1000000 in
theorem eqS_any (x y : Int) (sl sl2 : Option Addr) (cap cap2 : Nat) (zs : List Int) (w : World) (hn : zs.length ≤ maxLen) (hz : Ints w sl zs) (hz2 : Ints w sl2 zs) :
  Calls Tryz.prog 142 #[SV x y sl zs.length cap, SV x y sl2 zs.length cap2] w fun e w' => e = .returned (.bool true) ∧ Below w.heap.size w w' := by
 have E : Hid (∀ w1, Below w.heap.size w w1 → Calls Tryz.prog 24 #[.slice sl zs.length cap, .slice sl2 zs.length cap2] w1 fun e w' => e = .returned (.bool true) ∧ Below w1.heap.size w1 w') :=
  fun w1 hb => eq_any sl sl2 cap cap2 zs w1 hn (hz.below hb) (hz2.below hb)
 clear hz hz2
 generalize zs.length = n at *
 go_enter Tryz.func142, Tryz.ntmps142
 go_wp2_with fail
 refine (E.out _ (bA (bA0 _ _) _)).mono ?_
 rintro e w1 ⟨rfl, hb⟩
 have P := Lib.hid (bT (bA (bA0 w _) _) hb)
 clear hb
 go_wp2
 go_ret
 exact ⟨rfl, P.out⟩
set_option maxRecDepth 100000 in
set_option maxHeartbeats 2000000 in
theorem eqPS_any (sl sl' : Option Addr) (cap cap' : Nat) (ps : List LPr) (w : World) (hn : ps.length ≤ 1048576) (h : Prs w sl ps) (h' : Prs w sl' ps) :
  Calls Tryz.prog 80 #[.slice sl ps.length cap, .slice sl' ps.length cap'] w fun e w' => e = .returned (.bool true) ∧ Below w.heap.size w w' := by
 have H := Lib.hid h
 have H' := Lib.hid h'
 clear h h'
 generalize hN : ps.length = n at *
 have HN := Lib.hid hN
 clear hN
 go_enter Tryz.func80, Tryz.ntmps80
 go_wp2
 go_loopw [5] (fun i wr => ∃ j : Nat, i = .int .i64 j ∧ j ≤ n ∧ Hid (Below w.heap.size w wr)) (fun i _ => n - (intOf i).toNat)
 case atStart => exact ⟨0, rfl, Nat.zero_le _, Below.refl _ _⟩
 case round =>
  obtain ⟨j, rfl, hj, H2⟩ := hrel
  have hj0 : (0 : Int) ≤ (j : Int) := by omega
  by_cases h1 : j < n
  ·have h1' : (j : Int) < (n : Int) := by omega
   have hlt : j < ps.length := by rw [HN.out]; exact h1
   obtain ⟨g, o, rfl, Z0⟩ : ∃ c o, sl = some ⟨c, o, none⟩ ∧ PrAt w c o ps := by
    rcases H.out with e | h
    ·rw [e] at hlt; simp at hlt
    ·exact h
   obtain ⟨g', o', rfl, Z0'⟩ : ∃ c o, sl' = some ⟨c, o, none⟩ ∧ PrAt w c o ps := by
    rcases H'.out with e | h
    ·rw [e] at hlt; simp at hlt
    ·exact h
   obtain ⟨c0, c1, c2⟩ := (Z0.below H2.out).cell j hlt
   obtain ⟨d0, d1, d2⟩ := (Z0'.below H2.out).cell j hlt
   have hgl := (Z0.below H2.out).lt
   have hgl' := (Z0'.below H2.out).lt
   obtain ⟨x, y, q, hp⟩ : ∃ a b q, ps[j] = (a, b, q) := ⟨_, _, _, rfl⟩
   rw [hp] at c0 c1 c2 d0 d1 d2
   dsimp only at c0 c1 c2 d0 d1 d2
   have E : Hid (∀ W, Below wr.heap.size wr W → Calls Tryz.prog 143 #[.agg #[.int .i64 x, .int .i64 y, .int .i64 q], .agg #[.int .i64 x, .int .i64 y, .int .i64 q]] W fun e w' => e = .returned (.bool true) ∧ Below W.heap.size W w') := fun W _ => eqP_any x y q W
   have KB : Hid (∀ W, Below wr.heap.size wr W → g < W.heap.size ∧ g' < W.heap.size ∧ W.cell? ⟨g, o + j * 3, none⟩ = some (.int .i64 x) ∧ W.cell? ⟨g, o + j * 3 + 1, none⟩ = some (.int .i64 y) ∧ W.cell? ⟨g, o + j * 3 + 2, none⟩ = some (.int .i64 q) ∧ W.cell? ⟨g', o' + j * 3, none⟩ = some (.int .i64 x) ∧ W.cell? ⟨g', o' + j * 3 + 1, none⟩ = some (.int .i64 y) ∧ W.cell? ⟨g', o' + j * 3 + 2, none⟩ = some (.int .i64 q)) := fun W hW => ⟨Nat.lt_of_lt_of_le hgl hW.size, Nat.lt_of_lt_of_le hgl' hW.size, (hW.cell hgl).trans c0, (hW.cell hgl).trans c1, (hW.cell hgl).trans c2, (hW.cell hgl').trans d0, (hW.cell hgl').trans d1, (hW.cell hgl').trans d2⟩
   clear hp hlt Z0 Z0'
   go_wp2_with fail
   refine wp_region_held_drew (S := fun W => g < W.heap.size ∧ g' < W.heap.size ∧ W.cell? ⟨g, o + j * 3, none⟩ = some (.int .i64 x) ∧ W.cell? ⟨g, o + j * 3 + 1, none⟩ = some (.int .i64 y) ∧ W.cell? ⟨g, o + j * 3 + 2, none⟩ = some (.int .i64 q) ∧ W.cell? ⟨g', o' + j * 3, none⟩ = some (.int .i64 x) ∧ W.cell? ⟨g', o' + j * 3 + 1, none⟩ = some (.int .i64 y) ∧ W.cell? ⟨g', o' + j * 3 + 2, none⟩ = some (.int .i64 q)) (by kernel_rfl) ?_ (fun hHeld => ?_)
   ·exact KB.out _ (Below.refl _ _).drew
   refine tw (i := 0) rfl ?_
   refine tw (i := 1) rfl ?_
   refine tw (i := 2) rfl ?_
   refine tw (i := 3) rfl ?_
   try simp only [Act.put, setIfInBounds_toArray, set_cons_zero, set_cons_succ, getElem_toArray, getElem_cons_succ, getElem_cons_zero]
   refine tw (i := 4) rfl ?_
   refine tw (i := 5) rfl ?_
   refine tw (i := 6) rfl ?_
   refine tw (i := 7) rfl ?_
   try simp only [Act.put, setIfInBounds_toArray, set_cons_zero, set_cons_succ, getElem_toArray, getElem_cons_succ, getElem_cons_zero]
   refine wpAnyH_ready (rs := [8]) (by kernel_rfl) (by simp) ?_
   refine AllReadyH.cons rfl (fun K hK => ?_) AllReadyH.nil
   go_simp
   go_wp2_with (go_at_call 143; refine (E.out _ (by first | exact Below.refl _ _ | exact (Below.refl _ _).drew | exact Go.below_drewN (Below.refl _ _) _)).mono ?_; rintro e w5 ⟨rfl, b5⟩)
   have D5 : Hid (Below wr.heap.size wr w5) := bT ((Below.refl wr.heap.size wr).drew) b5
   clear b5
   refine hK.out _ _ ?_ (fun hHeld => ?_)
   ·exact KB.out _ D5.out
   clear hK K
   refine tw (i := 9) rfl ?_
   try simp only [Act.put, setIfInBounds_toArray, set_cons_zero, set_cons_succ, getElem_toArray, getElem_cons_succ, getElem_cons_zero]
   refine wpAnyH_done (by kernel_rfl) ?_ _
   have BQ5 := Lib.hid (bT H2.out D5.out)
   clear D5 KB E c0 c1 c2 d0 d1 d2
   go_wp2_with fail
   go_roundw
   case rel => exact ⟨j + 1, by go_num, by omega, BQ5⟩
   case measure => simp [intOf]; omega
  ·have h1' : ¬ (j : Int) < (n : Int) := by omega
   go_wp2
   go_ret
   exact ⟨rfl, H2.out⟩
set_option maxRecDepth 100000 in
set_option maxHeartbeats 2000000 in
theorem eqSS_any (sl sl' : Option Addr) (cap cap' : Nat) (rs rs' : List LSt) (w : World) (hn : rs.length ≤ 1048576) (hb : bareS rs = bareS rs') (h : Sts w sl rs) (h' : Sts w sl' rs') :
  Calls Tryz.prog 79 #[.slice sl rs.length cap, .slice sl' rs'.length cap'] w fun e w' => e = .returned (.bool true) ∧ Below w.heap.size w w' := by
 rw [← bareS_len hb]
 have H := Lib.hid h
 have H' := Lib.hid h'
 have HB := Lib.hid hb
 clear h h' hb
 generalize hN : rs.length = n at *
 have HN := Lib.hid hN
 clear hN
 go_enter Tryz.func79, Tryz.ntmps79
 go_wp2
 go_loopw [5] (fun i wr => ∃ j : Nat, i = .int .i64 j ∧ j ≤ n ∧ Hid (Below w.heap.size w wr)) (fun i _ => n - (intOf i).toNat)
 case atStart => exact ⟨0, rfl, Nat.zero_le _, Below.refl _ _⟩
 case round =>
  obtain ⟨j, rfl, hj, H2⟩ := hrel
  have hj0 : (0 : Int) ≤ (j : Int) := by omega
  by_cases h1 : j < n
  ·have h1' : (j : Int) < (n : Int) := by omega
   have hlt : j < rs.length := by rw [HN.out]; exact h1
   have hlt' : j < rs'.length := by rw [← bareS_len HB.out]; exact hlt
   obtain ⟨g, o, rfl, Z0⟩ : ∃ c o, sl = some ⟨c, o, none⟩ ∧ StAt w c o rs := by
    rcases H.out.row with e | h
    ·rw [e] at hlt; simp at hlt
    ·exact h
   obtain ⟨g', o', rfl, Z0'⟩ : ∃ c o, sl' = some ⟨c, o, none⟩ ∧ StAt w c o rs' := by
    rcases H'.out.row with e | h
    ·rw [e] at hlt'; simp at hlt'
    ·exact h
   obtain ⟨c0, c1, c2⟩ := (Z0.below H2.out).cell j hlt
   obtain ⟨d0, d1, d2⟩ := (Z0'.below H2.out).cell j hlt'
   have hgl := (Z0.below H2.out).lt
   have hgl' := (Z0'.below H2.out).lt
   have e1 : (rs[j].1, rs[j].2.1, rs[j].2.2.2) = (rs'[j].1, rs'[j].2.1, rs'[j].2.2.2) := by
    have := congrArg (fun l => l[j]?) HB.out
    simpa [bareS, hlt, hlt'] using this
   obtain ⟨s1, k1, v1, i1, l1⟩ := (H.out.dom rs[j] (List.getElem_mem hlt)).below H2.out
   obtain ⟨s2, k2, v2, i2, l2⟩ := (H'.out.dom rs'[j] (List.getElem_mem hlt')).below H2.out
   obtain ⟨x, y, v, zs, hp⟩ : ∃ x y v zs, rs[j] = (x, y, v, zs) := ⟨_, _, _, _, rfl⟩
   obtain ⟨x', y', v', zs', hp'⟩ : ∃ x y v zs, rs'[j] = (x, y, v, zs) := ⟨_, _, _, _, rfl⟩
   rw [hp] at c0 c1 c2 v1 i1 l1 e1
   rw [hp'] at d0 d1 d2 v2 i2 l2 e1
   dsimp only at c0 c1 c2 d0 d1 d2 v1 i1 l1 v2 i2 l2 e1
   obtain ⟨rfl, rfl, rfl⟩ : x = x' ∧ y = y' ∧ zs = zs' := by simpa using e1
   subst v1 v2
   have E : Hid (∀ W, Below wr.heap.size wr W → Calls Tryz.prog 142 #[SV x y s1 zs.length k1, SV x y s2 zs.length k2] W fun e w' => e = .returned (.bool true) ∧ Below W.heap.size W w') := fun W hW => eqS_any x y s1 s2 k1 k2 zs W (by unfold maxLen; omega) (i1.below hW) (i2.below hW)
   clear hp hp' hlt hlt' Z0 Z0' e1 i1 i2 l1 l2
   generalize zs.length = q at *
   have KB : Hid (∀ W, Below wr.heap.size wr W → g < W.heap.size ∧ g' < W.heap.size ∧ W.cell? ⟨g, o + j * 3, none⟩ = some (.int .i64 x) ∧ W.cell? ⟨g, o + j * 3 + 1, none⟩ = some (.int .i64 y) ∧ W.cell? ⟨g, o + j * 3 + 2, none⟩ = some (.slice s1 q k1) ∧ W.cell? ⟨g', o' + j * 3, none⟩ = some (.int .i64 x) ∧ W.cell? ⟨g', o' + j * 3 + 1, none⟩ = some (.int .i64 y) ∧ W.cell? ⟨g', o' + j * 3 + 2, none⟩ = some (.slice s2 q k2)) := fun W hW => ⟨Nat.lt_of_lt_of_le hgl hW.size, Nat.lt_of_lt_of_le hgl' hW.size, (hW.cell hgl).trans c0, (hW.cell hgl).trans c1, (hW.cell hgl).trans c2, (hW.cell hgl').trans d0, (hW.cell hgl').trans d1, (hW.cell hgl').trans d2⟩
   go_wp2_with fail
   refine wp_region_held_drew (S := fun W => g < W.heap.size ∧ g' < W.heap.size ∧ W.cell? ⟨g, o + j * 3, none⟩ = some (.int .i64 x) ∧ W.cell? ⟨g, o + j * 3 + 1, none⟩ = some (.int .i64 y) ∧ W.cell? ⟨g, o + j * 3 + 2, none⟩ = some (.slice s1 q k1) ∧ W.cell? ⟨g', o' + j * 3, none⟩ = some (.int .i64 x) ∧ W.cell? ⟨g', o' + j * 3 + 1, none⟩ = some (.int .i64 y) ∧ W.cell? ⟨g', o' + j * 3 + 2, none⟩ = some (.slice s2 q k2)) (by kernel_rfl) ?_ (fun hHeld => ?_)
   ·exact KB.out _ (Below.refl _ _).drew
   refine tw (i := 0) rfl ?_
   refine tw (i := 1) rfl ?_
   refine tw (i := 2) rfl ?_
   refine tw (i := 3) rfl ?_
   try simp only [Act.put, setIfInBounds_toArray, set_cons_zero, set_cons_succ, getElem_toArray, getElem_cons_succ, getElem_cons_zero]
   refine tw (i := 4) rfl ?_
   refine tw (i := 5) rfl ?_
   refine tw (i := 6) rfl ?_
   refine tw (i := 7) rfl ?_
   try simp only [Act.put, setIfInBounds_toArray, set_cons_zero, set_cons_succ, getElem_toArray, getElem_cons_succ, getElem_cons_zero]
   refine wpAnyH_ready (rs := [8]) (by kernel_rfl) (by simp) ?_
   refine AllReadyH.cons rfl (fun K hK => ?_) AllReadyH.nil
   go_simp
   go_wp2_with (go_at_call 142; refine (E.out _ (by first | exact Below.refl _ _ | exact (Below.refl _ _).drew | exact Go.below_drewN (Below.refl _ _) _)).mono ?_; rintro e w5 ⟨rfl, b5⟩)
   have D5 : Hid (Below wr.heap.size wr w5) := bT ((Below.refl wr.heap.size wr).drew) b5
   clear b5
   refine hK.out _ _ ?_ (fun hHeld => ?_)
   ·exact KB.out _ D5.out
   clear hK K
   refine tw (i := 9) rfl ?_
   try simp only [Act.put, setIfInBounds_toArray, set_cons_zero, set_cons_succ, getElem_toArray, getElem_cons_succ, getElem_cons_zero]
   refine wpAnyH_done (by kernel_rfl) ?_ _
   have BQ5 := Lib.hid (bT H2.out D5.out)
   clear D5 KB E c0 c1 c2 d0 d1 d2
   go_wp2_with fail
   go_roundw
   case rel => exact ⟨j + 1, by go_num, by omega, BQ5⟩
   case measure => simp [intOf]; omega
  ·have h1' : ¬ (j : Int) < (n : Int) := by omega
   go_wp2
   go_ret
   exact ⟨rfl, H2.out⟩
set_option maxRecDepth 100000 in
set_option maxHeartbeats 1000000 in
theorem eqT_any (sl sl' : Option Addr) (cap cap' : Nat) (tl tl' : Option Addr) (kap kap' : Nat) (rs rs' : List LSt) (ps : List LPr) (w : World) (hn : rs.length ≤ 1048576) (hm : ps.length ≤ 1048576) (hb : bareS rs = bareS rs') (h : Sts w sl rs) (h' : Sts w sl' rs') (hp : Prs w tl ps) (hp' : Prs w tl' ps) :
  Calls Tryz.prog 23 #[TV sl rs.length cap tl ps.length kap, TV sl' rs'.length cap' tl' ps.length kap'] w fun e w' => e = .returned (.bool true) ∧ Below w.heap.size w w' := by
 have E1 : Hid (∀ W, Below w.heap.size w W → Calls Tryz.prog 79 #[.slice sl rs.length cap, .slice sl' rs'.length cap'] W fun e w' => e = .returned (.bool true) ∧ Below W.heap.size W w') := fun W hW => eqSS_any sl sl' cap cap' rs rs' W hn hb (h.below hW) (h'.below hW)
 have E2 : Hid (∀ W, Below w.heap.size w W → Calls Tryz.prog 80 #[.slice tl ps.length kap, .slice tl' ps.length kap'] W fun e w' => e = .returned (.bool true) ∧ Below W.heap.size W w') := fun W hW => eqPS_any tl tl' kap kap' ps W hm (hp.below hW) (hp'.below hW)
 clear h h' hp hp' hb
 generalize rs.length = n at *
 generalize rs'.length = n' at *
 generalize ps.length = m at *
 go_enter Tryz.func23, Tryz.ntmps23
 go_wp2_with fail
 refine (E1.out _ (bA (bA0 _ _) _)).mono ?_
 rintro e w1 ⟨rfl, b1⟩
 have D1 := Lib.hid (bT (bA (bA0 w _) _) b1)
 obtain ⟨hc, hf⟩ := bcell b1
 clear b1
 go_wp2_with fail
 refine (E2.out _ D1.out).mono ?_
 rintro e w2 ⟨rfl, b2⟩
 have D2 := Lib.hid (bT D1.out b2)
 clear b2
 go_wp2
 go_ret
 exact ⟨rfl, D2.out⟩
theorem idsL_bare {rs rs' : List LSt} (h : bareS rs = bareS rs') : idsL rs = idsL rs' := by
 have := congrArg (List.map (fun r : Int × Int × List Int => r.1)) h
 simpa [bareS, idsL, Function.comp_def] using this
theorem TabR_bare {rs rs' : List LSt} (ps : List LPr) (h : bareS rs = bareS rs') (g : TabR rs ps) : TabR rs' ps := by
 obtain ⟨h1, h2, h3, h4, h5⟩ := g
 rw [bareS_len h] at h1
 rw [idsL_bare h] at h3 h4
 refine ⟨h1, fun r hr => ?_, h3, h4, h5⟩
 have hm : (r.1, r.2.1, r.2.2.2) ∈ bareS rs' := List.mem_map.2 ⟨r, hr, rfl⟩
 rw [← h] at hm
 obtain ⟨a, ha, e⟩ := List.mem_map.1 hm
 have := h2 a ha
 simp only [Prod.mk.injEq] at e
 rw [e.2.1, e.2.2] at this
 exact this
structure InT (w : World) (sl : Option Addr) (sl2 : Option Addr) (rs : List LSt) (ps : List LPr) : Prop where
 st : Sts0 w sl rs
 pr : Prs w sl2 ps
 wf : ∀ p ∈ ps, WfP p
 ln : rs.length ≤ maxLen
 lp : ps.length ≤ maxLen
end Go.Proofs.YtnihhbfgbilimaaGreatDoor
namespace Go.Proofs.YtnihhbfgbilimaaGreatDoor
open Go.RowKit Go.ChangeShapes Go.WideShapes
set_option linter.unusedVariables false
theorem add_at (c o i : Nat) : (⟨c, o, none⟩ : Addr).add i = ⟨c, o + i, none⟩ := by
 unfold Addr.add
 by_cases h : i = 0 <;> simp [h]
theorem addr_none {w : World} {x : Addr} {v : Value} (h : w.cell? (x.add 0) = some v) : ∃ c o, x = ⟨c, o, none⟩ ∧ c < w.heap.size := by
 obtain ⟨c, o, spot⟩ := x
 have hs' : spot = none := by simpa [Addr.add] using World.cell?_spot h
 subst hs'
 rw [add_at] at h
 refine ⟨c, o, rfl, ?_⟩
 unfold World.cell? at h
 cases e : w.heap[c]? with
 | none => simp [e] at h
 | some ob => exact (Array.getElem?_eq_some_iff.1 e).1
theorem cells85 : Tryz.prog.cellsOf 167 = 3 := by kernel_rfl
theorem cells88 : Tryz.prog.cellsOf 176 = 3 := by kernel_rfl
theorem cells2' : Tryz.prog.cellsOf 2 = 1 := by kernel_rfl
theorem cells29 : Tryz.prog.cellsOf 34 = 1 := by kernel_rfl
theorem cells37 : Tryz.prog.cellsOf 43 = 1 := by kernel_rfl
theorem cells38 : Tryz.prog.cellsOf 44 = 1 := by kernel_rfl
section
variable {H : Type} {enc : TypeId × Value → H} {W : World} {base : Nat} {sp : Nat → Bool} {held : Bool}
theorem open_dom {fuel : Nat} {cs : List Value} {x : DataW H × List MemPlace} (h : DataW.trod enc Tryz.prog W base sp held fuel 34 cs = some x) :
  ∃ sl cap zs, cs = [.slice sl (List.length zs) cap] ∧ Ints W sl zs ∧ zs.length ≤ maxLen := by
 rcases open_ints Tryz.underlying34 Tryz.underlying2 cells2' h with ⟨rfl, _⟩ | ⟨a, len, cap, zs, rfl, _, hl, hm, hz, _, hc, _⟩
 ·exact ⟨none, 0, [], rfl, .inl rfl, Nat.zero_le _⟩
 ·have hlz : len ≤ zs.length := by rw [hz]; split <;> omega
  have hlen : (zs.take len).length = len := by rw [List.length_take]; omega
  refine ⟨some a, cap, zs.take len, by rw [hlen], ?_, by rw [hlen]; omega⟩
  by_cases h0 : len = 0
  ·subst h0; exact .inl (by simp)
  ·obtain ⟨c, o, rfl, hcl⟩ := addr_none (hc 0 (by omega))
   refine .inr ⟨c, o, rfl, hcl, fun i hi => ?_⟩
   rw [hlen] at hi
   have h2 := hc i (by omega)
   rw [add_at] at h2
   rw [h2]
   simp [hi]
theorem open_i64 {fuel : Nat} {cs : List Value} {x : DataW H × List MemPlace} (h : DataW.trod enc Tryz.prog W base sp held fuel 2 cs = some x) : ∃ a, cs = [.int .i64 a] ∧ (Lit.int .i64 a).wf = true := by
 obtain ⟨a, hk, _, hw⟩ := DataW.trod_int Tryz.underlying2 h
 exact ⟨a, hk, hw⟩
theorem open_st1 {fuel : Nat} {cs : List Value} {x : DataW H × List MemPlace} (h : DataW.trod enc Tryz.prog W base sp held fuel 167 cs = some x) :
  ∃ a b sl cap zs, cs = [.int .i64 a, .int .i64 b, .slice sl (List.length zs) cap] ∧ Ints W sl zs ∧ zs.length ≤ maxLen := by
 obtain ⟨y0, y1, y2, n, _, hl, f0, f1, f2⟩ := Go.Deep.trod_struct3 Tryz.underlying167 h
 rw [cells85] at hl
 obtain ⟨c0, c1, c2, rfl⟩ : ∃ c0 c1 c2, cs = [c0, c1, c2] := by
  rcases cs with _ | ⟨a, _ | ⟨b, _ | ⟨c, _ | ⟨d, r⟩⟩⟩⟩ <;> simp at hl
  exact ⟨a, b, c, rfl⟩
 simp only [cells2', cells29, List.drop_zero, List.take_succ_cons, List.take_zero, List.drop_succ_cons] at f0 f1 f2
 obtain ⟨a, ha, _⟩ := open_i64 f0
 obtain ⟨b, hb, _⟩ := open_i64 f1
 obtain ⟨sl, cap, zs, hz, hi, hln⟩ := open_dom f2
 simp at ha hb hz
 exact ⟨a, b, sl, cap, zs, by rw [ha, hb, hz], hi, hln⟩
theorem open_pr1 {fuel : Nat} {cs : List Value} {x : DataW H × List MemPlace} (h : DataW.trod enc Tryz.prog W base sp held fuel 176 cs = some x) :
  ∃ p : LPr, cs = [.int .i64 p.1, .int .i64 p.2.1, .int .i64 p.2.2] ∧ WfP p := by
 obtain ⟨y0, y1, y2, n, _, hl, f0, f1, f2⟩ := Go.Deep.trod_struct3 Tryz.underlying176 h
 rw [cells88] at hl
 obtain ⟨c0, c1, c2, rfl⟩ : ∃ c0 c1 c2, cs = [c0, c1, c2] := by
  rcases cs with _ | ⟨a, _ | ⟨b, _ | ⟨c, _ | ⟨d, r⟩⟩⟩⟩ <;> simp at hl
  exact ⟨a, b, c, rfl⟩
 simp only [cells2', List.drop_zero, List.take_succ_cons, List.take_zero, List.drop_succ_cons] at f0 f1 f2
 obtain ⟨a, ha, wa⟩ := open_i64 f0
 obtain ⟨b, hb, wb⟩ := open_i64 f1
 obtain ⟨c, hc, wc⟩ := open_i64 f2
 simp at ha hb hc
 exact ⟨(a, b, c), by rw [ha, hb, hc], ⟨wa, wb⟩, wc⟩
theorem open_sts {fuel : Nat} {cs : List Value} {x : DataW H × List MemPlace} (h : DataW.trod enc Tryz.prog W base sp held fuel 43 cs = some x) :
  ∃ sl cap rs, cs = [.slice sl (List.length rs) cap] ∧ Sts0 W sl rs ∧ rs.length ≤ maxLen := by
 rcases Go.Deep.open_slice Tryz.underlying43 h with ⟨rfl, _⟩ | ⟨a, len, cap, m, n, D, Pl, rfl, _, hl, hm, hmm, _, hx⟩
 ·exact ⟨none, 0, [], rfl, ⟨.inl rfl, fun r hr => by cases hr⟩, Nat.zero_le _⟩
 ·have hlm : len ≤ m := by rw [hmm]; split <;> omega
  have each : ∀ i, i < len → ∃ r : LSt, W.cell? (a.add (i * 3)) = some (.int .i64 r.1) ∧ W.cell? (a.add (i * 3 + 1)) = some (.int .i64 r.2.1) ∧ W.cell? (a.add (i * 3 + 2)) = some r.2.2.1 ∧ DomIn0 W r := by
   intro i hi
   obtain ⟨cs', h1, h2⟩ := hx i (by omega)
   rw [cells85] at h1
   obtain ⟨_, hlen, hcell⟩ := World.cells?_some h1
   obtain ⟨p, q, sl, kp, zs, rfl, hi2, hln⟩ := open_st1 h2
   have e0 := hcell 0 (by omega)
   have e1 := hcell 1 (by omega)
   have e2 := hcell 2 (by omega)
   rw [Go.Deep.add_add] at e0 e1 e2
   exact ⟨(p, q, .slice sl zs.length kp, zs), by simpa using e0, by simpa using e1, by simpa using e2, ⟨sl, kp, rfl, hi2, hln⟩⟩
  obtain ⟨q, hq⟩ := Go.Deep.choose_lt each
  have hlen : ((List.range len).map q).length = len := by simp
  refine ⟨some a, cap, (List.range len).map q, by rw [hlen], ⟨?_, fun r hr => ?_⟩, by rw [hlen]; omega⟩
  ·by_cases h0 : len = 0
   ·subst h0; exact .inl rfl
   ·obtain ⟨c, o, rfl, hcl⟩ := addr_none (hq 0 (by omega)).1
    refine .inr ⟨c, o, rfl, hcl, fun i hi => ?_⟩
    have hi' : i < len := by simpa using hi
    obtain ⟨a0, a1, a2, _⟩ := hq i hi'
    rw [add_at] at a0 a1 a2
    simp only [List.getElem_map, List.getElem_range]
    exact ⟨a0, by rw [Nat.add_assoc]; exact a1, by rw [Nat.add_assoc]; exact a2⟩
  ·obtain ⟨i, hi, rfl⟩ := List.mem_map.1 hr
   exact (hq i (by simpa using hi)).2.2.2
theorem open_prs {fuel : Nat} {cs : List Value} {x : DataW H × List MemPlace} (h : DataW.trod enc Tryz.prog W base sp held fuel 44 cs = some x) :
  ∃ sl cap ps, cs = [.slice sl (List.length ps) cap] ∧ Prs W sl ps ∧ ps.length ≤ maxLen ∧ ∀ p ∈ ps, WfP p := by
 rcases Go.Deep.open_slice Tryz.underlying44 h with ⟨rfl, _⟩ | ⟨a, len, cap, m, n, D, Pl, rfl, _, hl, hm, hmm, _, hx⟩
 ·exact ⟨none, 0, [], rfl, .inl rfl, Nat.zero_le _, fun p hp => by cases hp⟩
 ·have hlm : len ≤ m := by rw [hmm]; split <;> omega
  have each : ∀ i, i < len → ∃ p : LPr, W.cell? (a.add (i * 3)) = some (.int .i64 p.1) ∧ W.cell? (a.add (i * 3 + 1)) = some (.int .i64 p.2.1) ∧ W.cell? (a.add (i * 3 + 2)) = some (.int .i64 p.2.2) ∧ WfP p := by
   intro i hi
   obtain ⟨cs', h1, h2⟩ := hx i (by omega)
   rw [cells88] at h1
   obtain ⟨_, hlen, hcell⟩ := World.cells?_some h1
   obtain ⟨p, rfl, hw⟩ := open_pr1 h2
   have e0 := hcell 0 (by omega)
   have e1 := hcell 1 (by omega)
   have e2 := hcell 2 (by omega)
   rw [Go.Deep.add_add] at e0 e1 e2
   exact ⟨p, by simpa using e0, by simpa using e1, by simpa using e2, hw⟩
  obtain ⟨q, hq⟩ := Go.Deep.choose_lt each
  have hlen : ((List.range len).map q).length = len := by simp
  refine ⟨some a, cap, (List.range len).map q, by rw [hlen], ?_, by rw [hlen]; omega, fun p hp => ?_⟩
  ·by_cases h0 : len = 0
   ·subst h0; exact .inl rfl
   ·obtain ⟨c, o, rfl, hcl⟩ := addr_none (hq 0 (by omega)).1
    refine .inr ⟨c, o, rfl, hcl, fun i hi => ?_⟩
    have hi' : i < len := by simpa using hi
    obtain ⟨a0, a1, a2, _⟩ := hq i hi'
    rw [add_at] at a0 a1 a2
    simp only [List.getElem_map, List.getElem_range]
    exact ⟨a0, by rw [Nat.add_assoc]; exact a1, by rw [Nat.add_assoc]; exact a2⟩
  ·obtain ⟨i, hi, rfl⟩ := List.mem_map.1 hp
   exact (hq i (by simpa using hi)).2.2.2
theorem open_tab {c0 c1 : Value} {d : DataW H} {ps : List MemPlace} (h : DataW.Trod enc Tryz.prog W base sp held 46 (.agg #[c0, c1]) d ps) :
  ∃ sl cap sl2 cap2 rs qs, c0 = .slice sl (List.length rs) cap ∧ c1 = .slice sl2 (List.length qs) cap2 ∧ InT W sl sl2 rs qs := by
 obtain ⟨fuel, hf⟩ := h
 obtain ⟨y0, y1, n, hx, _, f0, f1⟩ := trod_struct2 Tryz.underlying46 hf
 simp only [Value.cells, cells37, cells38, List.drop_zero, List.take_succ_cons, List.take_zero, List.drop_succ_cons] at f0 f1
 obtain ⟨sl, cap, rs, h0, hs, hl⟩ := open_sts f0
 obtain ⟨sl2, cap2, qs, h1, hp, hl2, hw⟩ := open_prs f1
 simp at h0 h1
 exact ⟨sl, cap, sl2, cap2, rs, qs, h0, h1, ⟨hs, hp, hw, hl, hl2⟩⟩
end
end Go.Proofs.YtnihhbfgbilimaaGreatDoor
namespace Go.Proofs.YtnihhbfgbilimaaGreatDoor
open Go.RowKit Go.ChangeShapes Go.WideShapes
set_option linter.unusedVariables false
section
variable {H : Type} {enc : TypeId × Value → H} {W : World} {base : Nat} {sp : Nat → Bool} {held : Bool}
theorem open_nums {a : Option Addr} {len cap : Nat} {d : DataW H} {ps : List MemPlace} (h : DataW.Trod enc Tryz.prog W base sp held 34 (.slice a len cap) d ps) :
  ∃ zs : List Int, len = zs.length ∧ Ints W a zs ∧ zs.length ≤ maxLen := by
 obtain ⟨fuel, hf⟩ := h
 obtain ⟨sl, cap', zs, e, h1, h2⟩ := open_dom hf
 simp [Value.cells] at e
 obtain ⟨rfl, rfl, rfl⟩ := e
 exact ⟨zs, rfl, h1, h2⟩
end
theorem DomOwn.setLow {b : Nat} {w : World} {r : LSt} (h : DomOwn b w r) {b' : Nat} (hb : b' < b) (i : Nat) (v : Value) : DomOwn b (w.setCell ⟨b', i, none⟩ v) r := by
 obtain ⟨g, e, hi, hg, hl⟩ := h
 exact ⟨g, e, hi.set (by omega) i v, hg, hl⟩
theorem Row3.stsO {w : World} {b n : Nat} {rs : List LSt} (h : Row3 w b 92 n (rs.map stT)) (hd : ∀ r ∈ rs, DomOwn b w r) : Sts w (some ⟨b, 0, none⟩) rs := by
 refine ⟨.inr ⟨b, 0, rfl, h.lt, fun i hi => ?_⟩, fun r hr => (hd r hr).din⟩
 have := h.at i (by simpa using hi)
 simpa [stT] using this
theorem OwnT.sts {C : Nat} {w : World} {b1 b2 : Nat} {rs : List LSt} {ps : List LPr} (h : OwnT C w b1 b2 rs ps) : Sts w (some ⟨b1, 0, none⟩) rs := h.r1.stsO h.dom
theorem OwnT.prs {C : Nat} {w : World} {b1 b2 : Nat} {rs : List LSt} {ps : List LPr} (h : OwnT C w b1 b2 rs ps) : Prs w (some ⟨b2, 0, none⟩) ps := h.r2.prs
end Go.Proofs.YtnihhbfgbilimaaGreatDoor
namespace Go.Proofs.YtnihhbfgbilimaaGreatDoor
open Go.RowKit Go.Maps
set_option linter.unusedVariables false
end Go.Proofs.YtnihhbfgbilimaaGreatDoor
