/-
  A PLAN AS TEXT: impl.linesOf over its Places, impl.PlanText, spec.PlanText.
-/
import Derived.Test.YtllaiigjkchahaaDoorRa
namespace Go.Proofs.YtllaiigjkchahaaDoor
open Go.RowKit
set_option linter.unusedVariables false

def plsB (pl : List LPl) : List UInt8 := pl.flatMap plB
def plT (pl : List LPl) : List UInt8 := if pl.length ≤ 400 then plsB pl else []
def WfPs (pl : List LPl) : Prop := ∀ p ∈ pl, wfI p.1 ∧ wfI p.2
theorem line2 (d1 d2 : List UInt8) : lineW [d1, d2] = d1 ++ [32] ++ d2 ++ [10] := by simp [lineW, Lib.join, List.intercalate]
theorem plB_le (p : LPl) (h : wfI p.1 ∧ wfI p.2) : (plB p).length ≤ 44 := by
  have h1 := itoa_all p.1 h.1
  have h2 := itoa_all p.2 h.2
  unfold plB
  rw [line2]
  simp
  omega
theorem plsB_step (pl : List LPl) (k : Nat) (h : k < pl.length) : plsB (pl.take (k + 1)) = plsB (pl.take k) ++ plB pl[k] := by
  unfold plsB
  rw [List.take_add_one, List.getElem?_eq_getElem h, List.flatMap_append]
  simp
theorem plsB_le (pl : List LPl) (h : WfPs pl) (k : Nat) : (plsB (pl.take k)).length ≤ 44 * k := by
  induction k with
  | zero => simp [plsB]
  | succ k ih =>
    by_cases hk : k < pl.length
    · rw [plsB_step pl k hk, List.length_append]
      have := plB_le pl[k] (h _ (List.getElem_mem hk))
      omega
    · rw [List.take_of_length_le (by omega)] at *
      omega
abbrev PLF : Value := .func (.func 18) #[] #[]
set_option maxRecDepth 100000 in
set_option maxHeartbeats 2000000 in
/-- impl.linesOf over Places. -/
theorem lop_any (sl : Option Addr) (cap : Nat) (pl : List LPl) (w : World) (hn : pl.length ≤ 1000) (hw : WfPs pl) (hz : Pls w sl pl) (ht : PowTab w) :
    Calls Tryd.prog 17 #[.slice sl pl.length cap, PLF] w fun e w' => e = .returned (.string ⟨(plsB pl).toArray⟩) ∧ Below w.heap.size w w' := by
  have HZ := Lib.hid hz
  have HT := Lib.hid ht
  have HW := Lib.hid hw
  have AL := Lib.hid (plsB_le pl hw)
  have HX0 := Lib.hid (new_bd w)
  have B0 := Lib.hid (bA0 w (.cells #[.pointer none, .slice none 0 0] 55))
  clear hz ht hw
  generalize hN : pl.length = n at *
  have HN := Lib.hid hN
  clear hN
  go_enter Tryd.func17, Tryd.ntmps17
  go_wp2_with fail
  generalize w.alloc (.cells #[.pointer none, .slice none 0 0] 55) = w0 at *
  go_loopw [11] (fun i wr => ∃ (k : Nat) (l : List UInt8), i = .int .i64 k ∧ k ≤ n ∧ Hid (l = plsB (pl.take k)) ∧ Hid (Bd w.heap.size w.heap.size (Lib.byteCells l) wr) ∧ Hid (Below w.heap.size w wr)) (fun i _ => n - (intOf i).toNat)
  case atStart => exact ⟨0, [], rfl, Nat.zero_le _, (by show [] = plsB (pl.take 0); simp [plsB]), HX0, B0⟩
  case round =>
    obtain ⟨k, l, rfl, hk, HL, XB, HB⟩ := hrel
    have hk0 : (0 : Int) ≤ (k : Int) := by omega
    by_cases g1 : k < n
    · have g1' : (k : Int) < (n : Int) := by omega
      have hlt : k < pl.length := by rw [HN.out]; exact g1
      obtain ⟨c, o, rfl, Z0⟩ : ∃ c o, sl = some ⟨c, o, none⟩ ∧ PlAt w c o pl := by
        rcases HZ.out with e | h
        · rw [e] at hlt; simp at hlt
        · exact h
      have hc0 := (HB.out.cell Z0.lt).trans (Z0.cell k hlt).1
      have hc1 := (HB.out.cell Z0.lt).trans (Z0.cell k hlt).2
      have S1 := Lib.hid (plsB_step pl k hlt)
      have LL := Lib.hid (AL.out k)
      obtain ⟨a, b, hp⟩ : ∃ a b, pl[k] = (a, b) := ⟨_, _, rfl⟩
      have HWk := HW.out _ (List.getElem_mem hlt)
      rw [hp] at hc0 hc1 S1 HWk
      dsimp only at hc0 hc1 HWk
      have E1 := Lib.hid (pll_any a b HWk.1 HWk.2 (wr.alloc (.cells #[.int .i64 a, .int .i64 b] 41)) ((HT.out.below HB.out).below (bA0 _ _)))
      have hd := plB_le (a, b) HWk
      have B1 := Lib.hid (bA0 wr (.cells #[.int .i64 a, .int .i64 b] 41))
      have NC : Hid ((wr.alloc (.cells #[.int .i64 a, .int .i64 b] 41)).heap[wr.heap.size]? = some (.cells #[.int .i64 a, .int .i64 b] 41)) := by show (wr.heap.push _)[wr.heap.size]? = _; simp
      have hwb := HB.out.size
      clear hlt hp Z0 HWk
      generalize plB (a, b) = d at *
      go_wp2_with fail
      refine E1.out.mono ?_
      rintro e w2 ⟨rfl, b2⟩
      have D2 := Lib.hid (bT B1.out b2)
      have X2 : Hid (Bd w.heap.size w.heap.size (Lib.byteCells l) w2) := Lib.hid (bd_below XB.out D2.out)
      have hll : l.length ≤ 44 * k := by rw [HL.out]; exact LL.out
      have E2 := Lib.hid (ws_text d X2.out (by omega) (by have := D2.out.size; omega))
      have F2 := Lib.hid (bT HB.out D2.out)
      clear b2 E1 D2 hc0 hc1
      go_wp2_with fail
      refine E2.out.mono ?_
      rintro e w3 ⟨rfl, x3, b3⟩
      have X3 := Lib.hid x3
      have F3 := Lib.hid (F2.out.trans b3)
      have NL : Hid (l ++ d = plsB (pl.take (k + 1))) := by rw [S1.out, HL.out]; exact Lib.hid rfl
      clear x3 b3 E2 X2 F2 XB HB HL
      go_wp2
      go_roundw
      case rel => exact ⟨k + 1, l ++ d, by go_num, by omega, NL, X3, F3⟩
      case measure => simp [intOf]; omega
    · have g1' : ¬ (k : Int) < (n : Int) := by omega
      have NL : Hid (l = plsB pl) := by
        have := HL.out
        rwa [List.take_of_length_le (by rw [HN.out]; omega)] at this
      have hwb := HB.out.size
      have E2 := Lib.hid (Tryd.Builder_String_any w.heap.size w.heap.size l wr XB.out hwb)
      clear HL XB
      go_wp2_with fail
      refine E2.out.mono ?_
      rintro e w2 ⟨rfl, b2⟩
      have D2 := Lib.hid (HB.out.trans b2)
      go_wp2
      go_ret
      exact ⟨by rw [NL.out]; rfl, D2.out⟩
set_option maxRecDepth 100000 in
set_option maxHeartbeats 1000000 in
/-- impl.PlanText. -/
theorem ipt_any (sl : Option Addr) (cap : Nat) (pl : List LPl) (w : World) (hn : pl.length ≤ maxLen) (hw : WfPs pl) (hz : Pls w sl pl) (ht : PowTab w) :
    Calls Tryd.prog 8 #[.slice sl pl.length cap] w fun e w' => e = .returned (.string ⟨(plT pl).toArray⟩) ∧ Below w.heap.size w w' := by
  by_cases h4 : 400 < pl.length
  · have h4' : (400 : Int) < (pl.length : Int) := by omega
    have e : plT pl = [] := by unfold plT; rw [if_neg (by omega)]
    rw [e]
    clear hz hw ht e
    generalize pl.length = n at *
    go_enter Tryd.func8, Tryd.ntmps8
    go_wp2
    go_ret
    exact ⟨rfl, Below.refl _ _⟩
  have h4' : ¬ (400 : Int) < (pl.length : Int) := by omega
  have e : plT pl = plsB pl := by unfold plT; rw [if_pos (by omega)]
  rw [e]
  have E := Lib.hid (lop_any sl cap pl w (by omega) hw hz ht)
  clear hz hw ht e
  generalize plsB pl = t at *
  generalize pl.length = n at *
  go_enter Tryd.func8, Tryd.ntmps8
  go_wp2_with fail
  refine E.out.mono ?_
  rintro e w1 ⟨rfl, b1⟩
  go_wp2
  go_ret
  exact ⟨rfl, b1⟩
set_option maxRecDepth 100000 in
set_option maxHeartbeats 2000000 in
/-- spec.PlanText. -/
theorem spt_any (sl : Option Addr) (cap : Nat) (pl : List LPl) (w : World) (hn : pl.length ≤ maxLen) (hw : WfPs pl) (hz : Pls w sl pl) :
    Calls Tryd.prog 6 #[.slice sl pl.length cap] w fun e w' => e = .returned (.string ⟨(plT pl).toArray⟩) ∧ Below w.heap.size w w' := by
  by_cases h4 : 400 < pl.length
  · have h4' : (400 : Int) < (pl.length : Int) := by omega
    have e : plT pl = [] := by unfold plT; rw [if_neg (by omega)]
    rw [e]
    clear hz hw e
    generalize pl.length = n at *
    go_enter Tryd.func6, Tryd.ntmps6
    go_wp2
    go_ret
    exact ⟨rfl, Below.refl _ _⟩
  have h4' : ¬ (400 : Int) < (pl.length : Int) := by omega
  have e : plT pl = plsB pl := by unfold plT; rw [if_pos (by omega)]
  rw [e]
  have HZ := Lib.hid hz
  have HW := Lib.hid hw
  have AL := Lib.hid (plsB_le pl hw)
  clear hz hw e
  generalize hN : pl.length = n at *
  have HN := Lib.hid hN
  clear hN
  go_enter Tryd.func6, Tryd.ntmps6
  go_wp2
  go_loopw [3, 4] (fun s i wr => ∃ (k : Nat) (l : List UInt8), s = .string ⟨l.toArray⟩ ∧ i = .int .i64 k ∧ k ≤ n ∧ Hid (l = plsB (pl.take k)) ∧ Hid (Below w.heap.size w wr)) (fun _ i _ => n - (intOf i).toNat)
  case atStart => exact ⟨0, [], rfl, rfl, Nat.zero_le _, (by show [] = plsB (pl.take 0); simp [plsB]), Below.refl _ _⟩
  case round =>
    obtain ⟨k, l, rfl, rfl, hk, HL, HB⟩ := hrel
    have hk0 : (0 : Int) ≤ (k : Int) := by omega
    by_cases g1 : k < n
    · have g1' : (k : Int) < (n : Int) := by omega
      have hlt : k < pl.length := by rw [HN.out]; exact g1
      obtain ⟨c, o, rfl, Z0⟩ : ∃ c o, sl = some ⟨c, o, none⟩ ∧ PlAt w c o pl := by
        rcases HZ.out with e | h
        · rw [e] at hlt; simp at hlt
        · exact h
      have hc0 := (HB.out.cell Z0.lt).trans (Z0.cell k hlt).1
      have hc1 := (HB.out.cell Z0.lt).trans (Z0.cell k hlt).2
      have hlt2 := Nat.lt_of_lt_of_le Z0.lt HB.out.size
      have S1 := Lib.hid (plsB_step pl k hlt)
      have LL := Lib.hid (AL.out k)
      obtain ⟨a, b, hp⟩ : ∃ a b, pl[k] = (a, b) := ⟨_, _, rfl⟩
      have HWk := HW.out _ (List.getElem_mem hlt)
      rw [hp] at hc0 hc1 S1 HWk
      dsimp only at hc0 hc1 HWk
      have KB : Hid (∀ W, Below wr.heap.size wr W → W.cell? ⟨c, o + k * 2, none⟩ = some (.int .i64 a) ∧ W.cell? ⟨c, o + k * 2 + 1, none⟩ = some (.int .i64 b)) := fun W hW => ⟨(hW.cell hlt2).trans hc0, (hW.cell hlt2).trans hc1⟩
      have E1 := Lib.hid (fun W => dec_any a (wfI_bd HWk.1) W)
      have E2 := Lib.hid (fun W => dec_any b (wfI_bd HWk.2) W)
      have hd1 := itoa_all a HWk.1
      have hd2 := itoa_all b HWk.2
      have PL := Lib.hid (show plB (a, b) = Lib.itoa a ++ [32] ++ Lib.itoa b ++ [10] from line2 _ _)
      have hll : l.length ≤ 44 * k := by rw [HL.out]; exact LL.out
      clear hlt hp Z0 HWk
      generalize plB (a, b) = d at *
      generalize Lib.itoa a = d1 at *
      generalize Lib.itoa b = d2 at *
      have s1 : ¬ 9223372036854775807 < l.length + d1.length := by omega
      have s2 : ¬ 9223372036854775807 < l.length + d1.length + 1 := by omega
      have s3 : ¬ 9223372036854775807 < l.length + d1.length + 1 + d2.length := by omega
      have s4 : ¬ 9223372036854775807 < l.length + d1.length + 1 + d2.length + 1 := by omega
      go_wp2_with fail
      refine wp_region_held_drew (S := fun W => W.cell? ⟨c, o + k * 2, none⟩ = some (.int .i64 a) ∧ W.cell? ⟨c, o + k * 2 + 1, none⟩ = some (.int .i64 b)) (by kernel_rfl) ?_ (fun hHeld => ?_)
      · exact KB.out _ (Below.refl _ _).drew
      refine wpAnyH_take (i := 0) (oi := _) (v := ?_) rfl (by kernel_rfl) (by kernel_rfl) (by kernel_rfl) (fun _ _ _ h => h) (Or.inl ⟨by rfl, ?_⟩) (by assumption) ?_
      rotate_left
      · first | (intro w hSw; (try dsimp only at hSw); go_simp; done) | (intro w hSw; (try dsimp only at hSw); go_simp; with_reducible rfl)
      try simp only [Act.put, List.setIfInBounds_toArray, List.set_cons_zero, List.set_cons_succ, List.getElem_toArray, List.getElem_cons_zero]
      refine wpAnyH_take (i := 1) (oi := _) (v := ?_) rfl (by kernel_rfl) (by kernel_rfl) (by kernel_rfl) (fun _ _ _ h => h) (Or.inl ⟨by rfl, ?_⟩) (by assumption) ?_
      rotate_left
      · first | (intro w hSw; (try dsimp only at hSw); go_simp; done) | (intro w hSw; (try dsimp only at hSw); go_simp; with_reducible rfl)
      try simp only [Act.put, List.setIfInBounds_toArray, List.set_cons_zero, List.set_cons_succ, List.getElem_toArray, List.getElem_cons_succ, List.getElem_cons_zero]
      refine wpAnyH_take (i := 2) (oi := _) (v := ?_) rfl (by kernel_rfl) (by kernel_rfl) (by kernel_rfl) (fun _ _ _ h => h) (Or.inl ⟨by rfl, ?_⟩) (by assumption) ?_
      rotate_left
      · first | (intro w hSw; (try dsimp only at hSw); go_simp; done) | (intro w hSw; (try dsimp only at hSw); go_simp; with_reducible rfl)
      try simp only [Act.put, List.setIfInBounds_toArray, List.set_cons_zero, List.set_cons_succ, List.getElem_toArray, List.getElem_cons_succ, List.getElem_cons_zero]
      refine wpAnyH_take (i := 3) (oi := _) (v := ?_) rfl (by kernel_rfl) (by kernel_rfl) (by kernel_rfl) (fun _ _ _ h => h) (Or.inl ⟨by rfl, ?_⟩) (by assumption) ?_
      rotate_left
      · first | (intro w hSw; (try dsimp only at hSw); go_simp; done) | (intro w hSw; (try dsimp only at hSw); go_simp; with_reducible rfl)
      try simp only [Act.put, List.setIfInBounds_toArray, List.set_cons_zero, List.set_cons_succ, List.getElem_toArray, List.getElem_cons_succ, List.getElem_cons_zero]
      refine wpAnyH_take (i := 4) (oi := _) (v := ?_) rfl (by kernel_rfl) (by kernel_rfl) (by kernel_rfl) (fun _ _ _ h => h) (Or.inl ⟨by rfl, ?_⟩) (by assumption) ?_
      rotate_left
      · first | (intro w hSw; (try dsimp only at hSw); go_simp; done) | (intro w hSw; (try dsimp only at hSw); go_simp; with_reducible rfl)
      try simp only [Act.put, List.setIfInBounds_toArray, List.set_cons_zero, List.set_cons_succ, List.getElem_toArray, List.getElem_cons_succ, List.getElem_cons_zero]
      refine wpAnyH_take (i := 5) (oi := _) (v := ?_) rfl (by kernel_rfl) (by kernel_rfl) (by kernel_rfl) (fun _ _ _ h => h) (Or.inl ⟨by rfl, ?_⟩) (by assumption) ?_
      rotate_left
      · first | (intro w hSw; (try dsimp only at hSw); go_simp; done) | (intro w hSw; (try dsimp only at hSw); go_simp; with_reducible rfl)
      try simp only [Act.put, List.setIfInBounds_toArray, List.set_cons_zero, List.set_cons_succ, List.getElem_toArray, List.getElem_cons_succ, List.getElem_cons_zero]
      refine wpAnyH_take (i := 9) (oi := _) (v := ?_) rfl (by kernel_rfl) (by kernel_rfl) (by kernel_rfl) (fun _ _ _ h => h) (Or.inl ⟨by rfl, ?_⟩) (by assumption) ?_
      rotate_left
      · first | (intro w hSw; (try dsimp only at hSw); go_simp; done) | (intro w hSw; (try dsimp only at hSw); go_simp; with_reducible rfl)
      try simp only [Act.put, List.setIfInBounds_toArray, List.set_cons_zero, List.set_cons_succ, List.getElem_toArray, List.getElem_cons_succ, List.getElem_cons_zero]
      refine wpAnyH_take (i := 10) (oi := _) (v := ?_) rfl (by kernel_rfl) (by kernel_rfl) (by kernel_rfl) (fun _ _ _ h => h) (Or.inl ⟨by rfl, ?_⟩) (by assumption) ?_
      rotate_left
      · first | (intro w hSw; (try dsimp only at hSw); go_simp; done) | (intro w hSw; (try dsimp only at hSw); go_simp; with_reducible rfl)
      try simp only [Act.put, List.setIfInBounds_toArray, List.set_cons_zero, List.set_cons_succ, List.getElem_toArray, List.getElem_cons_succ, List.getElem_cons_zero]
      refine wpAnyH_take (i := 11) (oi := _) (v := ?_) rfl (by kernel_rfl) (by kernel_rfl) (by kernel_rfl) (fun _ _ _ h => h) (Or.inl ⟨by rfl, ?_⟩) (by assumption) ?_
      rotate_left
      · first | (intro w hSw; (try dsimp only at hSw); go_simp; done) | (intro w hSw; (try dsimp only at hSw); go_simp; with_reducible rfl)
      try simp only [Act.put, List.setIfInBounds_toArray, List.set_cons_zero, List.set_cons_succ, List.getElem_toArray, List.getElem_cons_succ, List.getElem_cons_zero]
      refine wpAnyH_take (i := 12) (oi := _) (v := ?_) rfl (by kernel_rfl) (by kernel_rfl) (by kernel_rfl) (fun _ _ _ h => h) (Or.inl ⟨by rfl, ?_⟩) (by assumption) ?_
      rotate_left
      · first | (intro w hSw; (try dsimp only at hSw); go_simp; done) | (intro w hSw; (try dsimp only at hSw); go_simp; with_reducible rfl)
      try simp only [Act.put, List.setIfInBounds_toArray, List.set_cons_zero, List.set_cons_succ, List.getElem_toArray, List.getElem_cons_succ, List.getElem_cons_zero]
      refine wpAnyH_take (i := 13) (oi := _) (v := ?_) rfl (by kernel_rfl) (by kernel_rfl) (by kernel_rfl) (fun _ _ _ h => h) (Or.inl ⟨by rfl, ?_⟩) (by assumption) ?_
      rotate_left
      · first | (intro w hSw; (try dsimp only at hSw); go_simp; done) | (intro w hSw; (try dsimp only at hSw); go_simp; with_reducible rfl)
      try simp only [Act.put, List.setIfInBounds_toArray, List.set_cons_zero, List.set_cons_succ, List.getElem_toArray, List.getElem_cons_succ, List.getElem_cons_zero]
      refine wpAnyH_ready (rs := [6]) (by kernel_rfl) (by simp) ?_
      refine AllReadyH.cons rfl (fun K hK => ?_) AllReadyH.nil
      go_simp
      go_wp2_with (go_at_call 15; refine (E1.out _).mono ?_; rintro e w2 ⟨rfl, b1⟩)
      have F2 : Hid (Below wr.heap.size wr w2) := bT (Below.refl wr.heap.size wr).drew b1
      clear b1
      refine hK.out _ _ ?_ (fun hHeld => ?_)
      · exact KB.out _ F2.out
      clear hK K
      refine wpAnyH_take (i := 7) (oi := _) (v := ?_) rfl (by kernel_rfl) (by kernel_rfl) (by kernel_rfl) (fun _ _ _ h => h) (Or.inl ⟨by rfl, ?_⟩) (by assumption) ?_
      rotate_left
      · first | (intro w hSw; (try dsimp only at hSw); go_simp; done) | (intro w hSw; (try dsimp only at hSw); go_simp; with_reducible rfl)
      try simp only [Act.put, List.setIfInBounds_toArray, List.set_cons_zero, List.set_cons_succ, List.getElem_toArray, List.getElem_cons_succ, List.getElem_cons_zero]
      refine wpAnyH_take (i := 8) (oi := _) (v := ?_) rfl (by kernel_rfl) (by kernel_rfl) (by kernel_rfl) (fun _ _ _ h => h) (Or.inl ⟨by rfl, ?_⟩) (by assumption) ?_
      rotate_left
      · first | (intro w hSw; (try dsimp only at hSw); go_simp; done) | (intro w hSw; (try dsimp only at hSw); go_simp; with_reducible rfl)
      try simp only [Act.put, List.setIfInBounds_toArray, List.set_cons_zero, List.set_cons_succ, List.getElem_toArray, List.getElem_cons_succ, List.getElem_cons_zero]
      refine wpAnyH_ready (rs := [14]) (by kernel_rfl) (by simp) ?_
      refine AllReadyH.cons rfl (fun K hK => ?_) AllReadyH.nil
      go_simp
      go_wp2_with (go_at_call 15; refine (E2.out _).mono ?_; rintro e w3 ⟨rfl, b1⟩)
      have F3 : Hid (Below wr.heap.size wr w3) := bT F2.out b1
      clear b1
      refine hK.out _ _ ?_ (fun hHeld => ?_)
      · exact KB.out _ F3.out
      clear hK K
      refine wpAnyH_take (i := 15) (oi := _) (v := ?_) rfl (by kernel_rfl) (by kernel_rfl) (by kernel_rfl) (fun _ _ _ h => h) (Or.inl ⟨by rfl, ?_⟩) (by assumption) ?_
      rotate_left
      · first | (intro w hSw; (try dsimp only at hSw); go_simp; done) | (intro w hSw; (try dsimp only at hSw); go_simp; with_reducible rfl)
      try simp only [Act.put, List.setIfInBounds_toArray, List.set_cons_zero, List.set_cons_succ, List.getElem_toArray, List.getElem_cons_succ, List.getElem_cons_zero]
      refine wpAnyH_take (i := 16) (oi := _) (v := ?_) rfl (by kernel_rfl) (by kernel_rfl) (by kernel_rfl) (fun _ _ _ h => h) (Or.inl ⟨by rfl, ?_⟩) (by assumption) ?_
      rotate_left
      · first | (intro w hSw; (try dsimp only at hSw); go_simp; done) | (intro w hSw; (try dsimp only at hSw); go_simp; with_reducible rfl)
      try simp only [Act.put, List.setIfInBounds_toArray, List.set_cons_zero, List.set_cons_succ, List.getElem_toArray, List.getElem_cons_succ, List.getElem_cons_zero]
      refine wpAnyH_take (i := 17) (oi := _) (v := ?_) rfl (by kernel_rfl) (by kernel_rfl) (by kernel_rfl) (fun _ _ _ h => h) (Or.inl ⟨by rfl, ?_⟩) (by assumption) ?_
      rotate_left
      · first | (intro w hSw; (try dsimp only at hSw); go_simp; done) | (intro w hSw; (try dsimp only at hSw); go_simp; with_reducible rfl)
      try simp only [Act.put, List.setIfInBounds_toArray, List.set_cons_zero, List.set_cons_succ, List.getElem_toArray, List.getElem_cons_succ, List.getElem_cons_zero]
      refine wpAnyH_done (by kernel_rfl) ?_ _
      have e1 : ((⟨l.toArray⟩ : ByteArray) ++ ⟨d1.toArray⟩ ++ ⟨#[32]⟩ ++ ⟨d2.toArray⟩ ++ ⟨#[10]⟩) = ⟨(l ++ d).toArray⟩ := by
        have h1 := ba_app l d1
        have h2 := ba_app (l ++ d1) [32]
        have h3 := ba_app (l ++ d1 ++ [32]) d2
        have h4 := ba_app (l ++ d1 ++ [32] ++ d2) [10]
        rw [PL.out, show l ++ (d1 ++ [32] ++ d2 ++ [10]) = l ++ d1 ++ [32] ++ d2 ++ [10] by simp, ← h4, ← h3, ← h2, ← h1]
      have NL : Hid (l ++ d = plsB (pl.take (k + 1))) := by rw [S1.out, HL.out]; exact Lib.hid rfl
      have BB := Lib.hid (bT HB.out F3.out)
      clear KB E1 E2 F2 F3 HL HB hc0 hc1
      go_wp2
      go_roundw
      case rel => exact ⟨k + 1, l ++ d, by rw [← e1], by go_num, by omega, NL, BB⟩
      case measure => simp [intOf]; omega
    · have g1' : ¬ (k : Int) < (n : Int) := by omega
      have NL : Hid (l = plsB pl) := by
        have := HL.out
        rwa [List.take_of_length_le (by rw [HN.out]; omega)] at this
      clear HL
      go_wp2
      go_ret
      exact ⟨by rw [NL.out]; rfl, HB.out⟩
end Go.Proofs.YtllaiigjkchahaaDoor
