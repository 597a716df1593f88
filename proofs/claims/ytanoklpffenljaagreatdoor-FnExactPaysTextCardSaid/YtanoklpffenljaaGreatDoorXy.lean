/-
  A PLAN AS TEXT: impl.linesOf over its Places, impl.PlanText, spec.PlanText.
  PAYMENTS AS TEXT: impl.payLine, impl.linesOf over Pays, both PaysText.
-/
import Derived.Test.YtanoklpffenljaaGreatDoorWc
import Derived.Test.YtanoklpffenljaaGreatDoorXa
import Derived.Test.YtanoklpffenljaaGreatDoorMz
namespace Go.Proofs.YtanoklpffenljaaGreatDoor
open Go.RowKit
set_option linter.unusedVariables false

def plsB (pl : List LPl) : List UInt8 := pl.flatMap plB
def plT (pl : List LPl) : List UInt8 := if pl.length ≤ 400 then plsB pl else []
def WfPs (pl : List LPl) : Prop := ∀ p ∈ pl, wfI p.1 ∧ wfI p.2
theorem line2 (d1 d2 : List UInt8) : lineW [d1, d2] = d1 ++ [32] ++ d2 ++ [10] := by simp [lineW, Lib.join, List.intercalate]
theorem plB_le (p : LPl) (h : wfI p.1 ∧ wfI p.2) : (plB p).length ≤ 44 := by
  have h1 := itoa_all p.1 h.1
  have h2 := itoa_all p.2 h.2
  unfold plB
  rw [line2]
  simp
  omega
theorem plsB_step (pl : List LPl) (k : Nat) (h : k < pl.length) : plsB (pl.take (k + 1)) = plsB (pl.take k) ++ plB pl[k] := by
  unfold plsB
  rw [List.take_add_one, List.getElem?_eq_getElem h, List.flatMap_append]
  simp
theorem plsB_le (pl : List LPl) (h : WfPs pl) (k : Nat) : (plsB (pl.take k)).length ≤ 44 * k := by
  induction k with
  | zero => simp [plsB]
  | succ k ih =>
    by_cases hk : k < pl.length
    · rw [plsB_step pl k hk, List.length_append]
      have := plB_le pl[k] (h _ (List.getElem_mem hk))
      omega
    · rw [List.take_of_length_le (by omega)] at *
      omega
abbrev PLF : Value := .func (.func 88) #[] #[]
set_option maxRecDepth 100000 in
set_option maxHeartbeats 2000000 in
/-- impl.linesOf over Places. -/
theorem lop_any (sl : Option Addr) (cap : Nat) (pl : List LPl) (w : World) (hn : pl.length ≤ 1000) (hw : WfPs pl) (hz : Pls w sl pl) (ht : PowTab w) :
    Calls Tryz.prog 87 #[.slice sl pl.length cap, PLF] w fun e w' => e = .returned (.string ⟨(plsB pl).toArray⟩) ∧ Below w.heap.size w w' := by
  have HZ := Lib.hid hz
  have HT := Lib.hid ht
  have HW := Lib.hid hw
  have AL := Lib.hid (plsB_le pl hw)
  have HX0 := Lib.hid (new_bd w)
  have B0 := Lib.hid (bA0 w (.cells #[.pointer none, .slice none 0 0] 107))
  clear hz ht hw
  generalize hN : pl.length = n at *
  have HN := Lib.hid hN
  clear hN
  go_enter Tryz.func87, Tryz.ntmps87
  go_wp2_with fail
  generalize w.alloc (.cells #[.pointer none, .slice none 0 0] 107) = w0 at *
  go_loopw [11] (fun i wr => ∃ (k : Nat) (l : List UInt8), i = .int .i64 k ∧ k ≤ n ∧ Hid (l = plsB (pl.take k)) ∧ Hid (Bd w.heap.size w.heap.size (Lib.byteCells l) wr) ∧ Hid (Below w.heap.size w wr)) (fun i _ => n - (intOf i).toNat)
  case atStart => exact ⟨0, [], rfl, Nat.zero_le _, (by show [] = plsB (pl.take 0); simp [plsB]), HX0, B0⟩
  case round =>
    obtain ⟨k, l, rfl, hk, HL, XB, HB⟩ := hrel
    have hk0 : (0 : Int) ≤ (k : Int) := by omega
    by_cases g1 : k < n
    · have g1' : (k : Int) < (n : Int) := by omega
      have hlt : k < pl.length := by rw [HN.out]; exact g1
      obtain ⟨c, o, rfl, Z0⟩ : ∃ c o, sl = some ⟨c, o, none⟩ ∧ PlAt w c o pl := by
        rcases HZ.out with e | h
        · rw [e] at hlt; simp at hlt
        · exact h
      have hc0 := (HB.out.cell Z0.lt).trans (Z0.cell k hlt).1
      have hc1 := (HB.out.cell Z0.lt).trans (Z0.cell k hlt).2
      have S1 := Lib.hid (plsB_step pl k hlt)
      have LL := Lib.hid (AL.out k)
      obtain ⟨a, b, hp⟩ : ∃ a b, pl[k] = (a, b) := ⟨_, _, rfl⟩
      have HWk := HW.out _ (List.getElem_mem hlt)
      rw [hp] at hc0 hc1 S1 HWk
      dsimp only at hc0 hc1 HWk
      have E1 := Lib.hid (pll_any a b HWk.1 HWk.2 (wr.alloc (.cells #[.int .i64 a, .int .i64 b] 97)) ((HT.out.below HB.out).below (bA0 _ _)))
      have hd := plB_le (a, b) HWk
      have B1 := Lib.hid (bA0 wr (.cells #[.int .i64 a, .int .i64 b] 97))
      have NC : Hid ((wr.alloc (.cells #[.int .i64 a, .int .i64 b] 97)).heap[wr.heap.size]? = some (.cells #[.int .i64 a, .int .i64 b] 97)) := by show (wr.heap.push _)[wr.heap.size]? = _; simp
      have hwb := HB.out.size
      clear hlt hp Z0 HWk
      generalize plB (a, b) = d at *
      go_wp2_with fail
      refine E1.out.mono ?_
      rintro e w2 ⟨rfl, b2⟩
      have D2 := Lib.hid (bT B1.out b2)
      have X2 : Hid (Bd w.heap.size w.heap.size (Lib.byteCells l) w2) := Lib.hid (bd_below XB.out D2.out)
      have hll : l.length ≤ 44 * k := by rw [HL.out]; exact LL.out
      have E2 := Lib.hid (ws_text d X2.out (by omega) (by have := D2.out.size; omega))
      have F2 := Lib.hid (bT HB.out D2.out)
      clear b2 E1 D2 hc0 hc1
      go_wp2_with fail
      refine E2.out.mono ?_
      rintro e w3 ⟨rfl, x3, b3⟩
      have X3 := Lib.hid x3
      have F3 := Lib.hid (F2.out.trans b3)
      have NL : Hid (l ++ d = plsB (pl.take (k + 1))) := by rw [S1.out, HL.out]; exact Lib.hid rfl
      clear x3 b3 E2 X2 F2 XB HB HL
      go_wp2
      go_roundw
      case rel => exact ⟨k + 1, l ++ d, by go_num, by omega, NL, X3, F3⟩
      case measure => simp [intOf]; omega
    · have g1' : ¬ (k : Int) < (n : Int) := by omega
      have NL : Hid (l = plsB pl) := by
        have := HL.out
        rwa [List.take_of_length_le (by rw [HN.out]; omega)] at this
      have hwb := HB.out.size
      have E2 := Lib.hid (Tryz.Builder_String_any w.heap.size w.heap.size l wr XB.out hwb)
      clear HL XB
      go_wp2_with fail
      refine E2.out.mono ?_
      rintro e w2 ⟨rfl, b2⟩
      have D2 := Lib.hid (HB.out.trans b2)
      go_wp2
      go_ret
      exact ⟨by rw [NL.out]; rfl, D2.out⟩
set_option maxRecDepth 100000 in
set_option maxHeartbeats 1000000 in
/-- impl.PlanText. -/
theorem ipt_any (sl : Option Addr) (cap : Nat) (pl : List LPl) (w : World) (hn : pl.length ≤ maxLen) (hw : WfPs pl) (hz : Pls w sl pl) (ht : PowTab w) :
    Calls Tryz.prog 47 #[.slice sl pl.length cap] w fun e w' => e = .returned (.string ⟨(plT pl).toArray⟩) ∧ Below w.heap.size w w' := by
  by_cases h4 : 400 < pl.length
  · have h4' : (400 : Int) < (pl.length : Int) := by omega
    have e : plT pl = [] := by unfold plT; rw [if_neg (by omega)]
    rw [e]
    clear hz hw ht e
    generalize pl.length = n at *
    go_enter Tryz.func47, Tryz.ntmps47
    go_wp2
    go_ret
    exact ⟨rfl, Below.refl _ _⟩
  have h4' : ¬ (400 : Int) < (pl.length : Int) := by omega
  have e : plT pl = plsB pl := by unfold plT; rw [if_pos (by omega)]
  rw [e]
  have E := Lib.hid (lop_any sl cap pl w (by omega) hw hz ht)
  clear hz hw ht e
  generalize plsB pl = t at *
  generalize pl.length = n at *
  go_enter Tryz.func47, Tryz.ntmps47
  go_wp2_with fail
  refine E.out.mono ?_
  rintro e w1 ⟨rfl, b1⟩
  go_wp2
  go_ret
  exact ⟨rfl, b1⟩
set_option maxRecDepth 100000 in
set_option maxHeartbeats 2000000 in
/-- spec.PlanText. -/
theorem spt_any (sl : Option Addr) (cap : Nat) (pl : List LPl) (w : World) (hn : pl.length ≤ maxLen) (hw : WfPs pl) (hz : Pls w sl pl) :
    Calls Tryz.prog 45 #[.slice sl pl.length cap] w fun e w' => e = .returned (.string ⟨(plT pl).toArray⟩) ∧ Below w.heap.size w w' := by
  by_cases h4 : 400 < pl.length
  · have h4' : (400 : Int) < (pl.length : Int) := by omega
    have e : plT pl = [] := by unfold plT; rw [if_neg (by omega)]
    rw [e]
    clear hz hw e
    generalize pl.length = n at *
    go_enter Tryz.func45, Tryz.ntmps45
    go_wp2
    go_ret
    exact ⟨rfl, Below.refl _ _⟩
  have h4' : ¬ (400 : Int) < (pl.length : Int) := by omega
  have e : plT pl = plsB pl := by unfold plT; rw [if_pos (by omega)]
  rw [e]
  have HZ := Lib.hid hz
  have HW := Lib.hid hw
  have AL := Lib.hid (plsB_le pl hw)
  clear hz hw e
  generalize hN : pl.length = n at *
  have HN := Lib.hid hN
  clear hN
  go_enter Tryz.func45, Tryz.ntmps45
  go_wp2
  go_loopw [3, 4] (fun s i wr => ∃ (k : Nat) (l : List UInt8), s = .string ⟨l.toArray⟩ ∧ i = .int .i64 k ∧ k ≤ n ∧ Hid (l = plsB (pl.take k)) ∧ Hid (Below w.heap.size w wr)) (fun _ i _ => n - (intOf i).toNat)
  case atStart => exact ⟨0, [], rfl, rfl, Nat.zero_le _, (by show [] = plsB (pl.take 0); simp [plsB]), Below.refl _ _⟩
  case round =>
    obtain ⟨k, l, rfl, rfl, hk, HL, HB⟩ := hrel
    have hk0 : (0 : Int) ≤ (k : Int) := by omega
    by_cases g1 : k < n
    · have g1' : (k : Int) < (n : Int) := by omega
      have hlt : k < pl.length := by rw [HN.out]; exact g1
      obtain ⟨c, o, rfl, Z0⟩ : ∃ c o, sl = some ⟨c, o, none⟩ ∧ PlAt w c o pl := by
        rcases HZ.out with e | h
        · rw [e] at hlt; simp at hlt
        · exact h
      have hc0 := (HB.out.cell Z0.lt).trans (Z0.cell k hlt).1
      have hc1 := (HB.out.cell Z0.lt).trans (Z0.cell k hlt).2
      have hlt2 := Nat.lt_of_lt_of_le Z0.lt HB.out.size
      have S1 := Lib.hid (plsB_step pl k hlt)
      have LL := Lib.hid (AL.out k)
      obtain ⟨a, b, hp⟩ : ∃ a b, pl[k] = (a, b) := ⟨_, _, rfl⟩
      have HWk := HW.out _ (List.getElem_mem hlt)
      rw [hp] at hc0 hc1 S1 HWk
      dsimp only at hc0 hc1 HWk
      have KB : Hid (∀ W, Below wr.heap.size wr W → W.cell? ⟨c, o + k * 2, none⟩ = some (.int .i64 a) ∧ W.cell? ⟨c, o + k * 2 + 1, none⟩ = some (.int .i64 b)) := fun W hW => ⟨(hW.cell hlt2).trans hc0, (hW.cell hlt2).trans hc1⟩
      have E1 := Lib.hid (fun W => dec_any a (wfI_bd HWk.1) W)
      have E2 := Lib.hid (fun W => dec_any b (wfI_bd HWk.2) W)
      have hd1 := itoa_all a HWk.1
      have hd2 := itoa_all b HWk.2
      have PL := Lib.hid (show plB (a, b) = Lib.itoa a ++ [32] ++ Lib.itoa b ++ [10] from line2 _ _)
      have hll : l.length ≤ 44 * k := by rw [HL.out]; exact LL.out
      clear hlt hp Z0 HWk
      generalize plB (a, b) = d at *
      generalize Lib.itoa a = d1 at *
      generalize Lib.itoa b = d2 at *
      have s1 : ¬ 9223372036854775807 < l.length + d1.length := by omega
      have s2 : ¬ 9223372036854775807 < l.length + d1.length + 1 := by omega
      have s3 : ¬ 9223372036854775807 < l.length + d1.length + 1 + d2.length := by omega
      have s4 : ¬ 9223372036854775807 < l.length + d1.length + 1 + d2.length + 1 := by omega
      go_wp2_with fail
      refine wp_region_held_drew (S := fun W => W.cell? ⟨c, o + k * 2, none⟩ = some (.int .i64 a) ∧ W.cell? ⟨c, o + k * 2 + 1, none⟩ = some (.int .i64 b)) (by kernel_rfl) ?_ (fun hHeld => ?_)
      · exact KB.out _ (Below.refl _ _).drew
      refine wpAnyH_take (i := 0) (oi := _) (v := ?_) rfl (by kernel_rfl) (by kernel_rfl) (by kernel_rfl) (fun _ _ _ h => h) (Or.inl ⟨by rfl, ?_⟩) (by assumption) ?_
      rotate_left
      · first | (intro w hSw; (try dsimp only at hSw); go_simp; done) | (intro w hSw; (try dsimp only at hSw); go_simp; with_reducible rfl)
      try simp only [Act.put, List.setIfInBounds_toArray, List.set_cons_zero, List.set_cons_succ, List.getElem_toArray, List.getElem_cons_zero]
      refine wpAnyH_take (i := 1) (oi := _) (v := ?_) rfl (by kernel_rfl) (by kernel_rfl) (by kernel_rfl) (fun _ _ _ h => h) (Or.inl ⟨by rfl, ?_⟩) (by assumption) ?_
      rotate_left
      · first | (intro w hSw; (try dsimp only at hSw); go_simp; done) | (intro w hSw; (try dsimp only at hSw); go_simp; with_reducible rfl)
      try simp only [Act.put, List.setIfInBounds_toArray, List.set_cons_zero, List.set_cons_succ, List.getElem_toArray, List.getElem_cons_succ, List.getElem_cons_zero]
      refine wpAnyH_take (i := 2) (oi := _) (v := ?_) rfl (by kernel_rfl) (by kernel_rfl) (by kernel_rfl) (fun _ _ _ h => h) (Or.inl ⟨by rfl, ?_⟩) (by assumption) ?_
      rotate_left
      · first | (intro w hSw; (try dsimp only at hSw); go_simp; done) | (intro w hSw; (try dsimp only at hSw); go_simp; with_reducible rfl)
      try simp only [Act.put, List.setIfInBounds_toArray, List.set_cons_zero, List.set_cons_succ, List.getElem_toArray, List.getElem_cons_succ, List.getElem_cons_zero]
      refine wpAnyH_take (i := 3) (oi := _) (v := ?_) rfl (by kernel_rfl) (by kernel_rfl) (by kernel_rfl) (fun _ _ _ h => h) (Or.inl ⟨by rfl, ?_⟩) (by assumption) ?_
      rotate_left
      · first | (intro w hSw; (try dsimp only at hSw); go_simp; done) | (intro w hSw; (try dsimp only at hSw); go_simp; with_reducible rfl)
      try simp only [Act.put, List.setIfInBounds_toArray, List.set_cons_zero, List.set_cons_succ, List.getElem_toArray, List.getElem_cons_succ, List.getElem_cons_zero]
      refine wpAnyH_take (i := 4) (oi := _) (v := ?_) rfl (by kernel_rfl) (by kernel_rfl) (by kernel_rfl) (fun _ _ _ h => h) (Or.inl ⟨by rfl, ?_⟩) (by assumption) ?_
      rotate_left
      · first | (intro w hSw; (try dsimp only at hSw); go_simp; done) | (intro w hSw; (try dsimp only at hSw); go_simp; with_reducible rfl)
      try simp only [Act.put, List.setIfInBounds_toArray, List.set_cons_zero, List.set_cons_succ, List.getElem_toArray, List.getElem_cons_succ, List.getElem_cons_zero]
      refine wpAnyH_take (i := 5) (oi := _) (v := ?_) rfl (by kernel_rfl) (by kernel_rfl) (by kernel_rfl) (fun _ _ _ h => h) (Or.inl ⟨by rfl, ?_⟩) (by assumption) ?_
      rotate_left
      · first | (intro w hSw; (try dsimp only at hSw); go_simp; done) | (intro w hSw; (try dsimp only at hSw); go_simp; with_reducible rfl)
      try simp only [Act.put, List.setIfInBounds_toArray, List.set_cons_zero, List.set_cons_succ, List.getElem_toArray, List.getElem_cons_succ, List.getElem_cons_zero]
      refine wpAnyH_take (i := 9) (oi := _) (v := ?_) rfl (by kernel_rfl) (by kernel_rfl) (by kernel_rfl) (fun _ _ _ h => h) (Or.inl ⟨by rfl, ?_⟩) (by assumption) ?_
      rotate_left
      · first | (intro w hSw; (try dsimp only at hSw); go_simp; done) | (intro w hSw; (try dsimp only at hSw); go_simp; with_reducible rfl)
      try simp only [Act.put, List.setIfInBounds_toArray, List.set_cons_zero, List.set_cons_succ, List.getElem_toArray, List.getElem_cons_succ, List.getElem_cons_zero]
      refine wpAnyH_take (i := 10) (oi := _) (v := ?_) rfl (by kernel_rfl) (by kernel_rfl) (by kernel_rfl) (fun _ _ _ h => h) (Or.inl ⟨by rfl, ?_⟩) (by assumption) ?_
      rotate_left
      · first | (intro w hSw; (try dsimp only at hSw); go_simp; done) | (intro w hSw; (try dsimp only at hSw); go_simp; with_reducible rfl)
      try simp only [Act.put, List.setIfInBounds_toArray, List.set_cons_zero, List.set_cons_succ, List.getElem_toArray, List.getElem_cons_succ, List.getElem_cons_zero]
      refine wpAnyH_take (i := 11) (oi := _) (v := ?_) rfl (by kernel_rfl) (by kernel_rfl) (by kernel_rfl) (fun _ _ _ h => h) (Or.inl ⟨by rfl, ?_⟩) (by assumption) ?_
      rotate_left
      · first | (intro w hSw; (try dsimp only at hSw); go_simp; done) | (intro w hSw; (try dsimp only at hSw); go_simp; with_reducible rfl)
      try simp only [Act.put, List.setIfInBounds_toArray, List.set_cons_zero, List.set_cons_succ, List.getElem_toArray, List.getElem_cons_succ, List.getElem_cons_zero]
      refine wpAnyH_take (i := 12) (oi := _) (v := ?_) rfl (by kernel_rfl) (by kernel_rfl) (by kernel_rfl) (fun _ _ _ h => h) (Or.inl ⟨by rfl, ?_⟩) (by assumption) ?_
      rotate_left
      · first | (intro w hSw; (try dsimp only at hSw); go_simp; done) | (intro w hSw; (try dsimp only at hSw); go_simp; with_reducible rfl)
      try simp only [Act.put, List.setIfInBounds_toArray, List.set_cons_zero, List.set_cons_succ, List.getElem_toArray, List.getElem_cons_succ, List.getElem_cons_zero]
      refine wpAnyH_take (i := 13) (oi := _) (v := ?_) rfl (by kernel_rfl) (by kernel_rfl) (by kernel_rfl) (fun _ _ _ h => h) (Or.inl ⟨by rfl, ?_⟩) (by assumption) ?_
      rotate_left
      · first | (intro w hSw; (try dsimp only at hSw); go_simp; done) | (intro w hSw; (try dsimp only at hSw); go_simp; with_reducible rfl)
      try simp only [Act.put, List.setIfInBounds_toArray, List.set_cons_zero, List.set_cons_succ, List.getElem_toArray, List.getElem_cons_succ, List.getElem_cons_zero]
      refine wpAnyH_ready (rs := [6]) (by kernel_rfl) (by simp) ?_
      refine AllReadyH.cons rfl (fun K hK => ?_) AllReadyH.nil
      go_simp
      go_wp2_with (go_at_call 22; refine (E1.out _).mono ?_; rintro e w2 ⟨rfl, b1⟩)
      have F2 : Hid (Below wr.heap.size wr w2) := bT (Below.refl wr.heap.size wr).drew b1
      clear b1
      refine hK.out _ _ ?_ (fun hHeld => ?_)
      · exact KB.out _ F2.out
      clear hK K
      refine wpAnyH_take (i := 7) (oi := _) (v := ?_) rfl (by kernel_rfl) (by kernel_rfl) (by kernel_rfl) (fun _ _ _ h => h) (Or.inl ⟨by rfl, ?_⟩) (by assumption) ?_
      rotate_left
      · first | (intro w hSw; (try dsimp only at hSw); go_simp; done) | (intro w hSw; (try dsimp only at hSw); go_simp; with_reducible rfl)
      try simp only [Act.put, List.setIfInBounds_toArray, List.set_cons_zero, List.set_cons_succ, List.getElem_toArray, List.getElem_cons_succ, List.getElem_cons_zero]
      refine wpAnyH_take (i := 8) (oi := _) (v := ?_) rfl (by kernel_rfl) (by kernel_rfl) (by kernel_rfl) (fun _ _ _ h => h) (Or.inl ⟨by rfl, ?_⟩) (by assumption) ?_
      rotate_left
      · first | (intro w hSw; (try dsimp only at hSw); go_simp; done) | (intro w hSw; (try dsimp only at hSw); go_simp; with_reducible rfl)
      try simp only [Act.put, List.setIfInBounds_toArray, List.set_cons_zero, List.set_cons_succ, List.getElem_toArray, List.getElem_cons_succ, List.getElem_cons_zero]
      refine wpAnyH_ready (rs := [14]) (by kernel_rfl) (by simp) ?_
      refine AllReadyH.cons rfl (fun K hK => ?_) AllReadyH.nil
      go_simp
      go_wp2_with (go_at_call 22; refine (E2.out _).mono ?_; rintro e w3 ⟨rfl, b1⟩)
      have F3 : Hid (Below wr.heap.size wr w3) := bT F2.out b1
      clear b1
      refine hK.out _ _ ?_ (fun hHeld => ?_)
      · exact KB.out _ F3.out
      clear hK K
      refine wpAnyH_take (i := 15) (oi := _) (v := ?_) rfl (by kernel_rfl) (by kernel_rfl) (by kernel_rfl) (fun _ _ _ h => h) (Or.inl ⟨by rfl, ?_⟩) (by assumption) ?_
      rotate_left
      · first | (intro w hSw; (try dsimp only at hSw); go_simp; done) | (intro w hSw; (try dsimp only at hSw); go_simp; with_reducible rfl)
      try simp only [Act.put, List.setIfInBounds_toArray, List.set_cons_zero, List.set_cons_succ, List.getElem_toArray, List.getElem_cons_succ, List.getElem_cons_zero]
      refine wpAnyH_take (i := 16) (oi := _) (v := ?_) rfl (by kernel_rfl) (by kernel_rfl) (by kernel_rfl) (fun _ _ _ h => h) (Or.inl ⟨by rfl, ?_⟩) (by assumption) ?_
      rotate_left
      · first | (intro w hSw; (try dsimp only at hSw); go_simp; done) | (intro w hSw; (try dsimp only at hSw); go_simp; with_reducible rfl)
      try simp only [Act.put, List.setIfInBounds_toArray, List.set_cons_zero, List.set_cons_succ, List.getElem_toArray, List.getElem_cons_succ, List.getElem_cons_zero]
      refine wpAnyH_take (i := 17) (oi := _) (v := ?_) rfl (by kernel_rfl) (by kernel_rfl) (by kernel_rfl) (fun _ _ _ h => h) (Or.inl ⟨by rfl, ?_⟩) (by assumption) ?_
      rotate_left
      · first | (intro w hSw; (try dsimp only at hSw); go_simp; done) | (intro w hSw; (try dsimp only at hSw); go_simp; with_reducible rfl)
      try simp only [Act.put, List.setIfInBounds_toArray, List.set_cons_zero, List.set_cons_succ, List.getElem_toArray, List.getElem_cons_succ, List.getElem_cons_zero]
      refine wpAnyH_done (by kernel_rfl) ?_ _
      have e1 : ((⟨l.toArray⟩ : ByteArray) ++ ⟨d1.toArray⟩ ++ ⟨#[32]⟩ ++ ⟨d2.toArray⟩ ++ ⟨#[10]⟩) = ⟨(l ++ d).toArray⟩ := by
        have h1 := ba_app l d1
        have h2 := ba_app (l ++ d1) [32]
        have h3 := ba_app (l ++ d1 ++ [32]) d2
        have h4 := ba_app (l ++ d1 ++ [32] ++ d2) [10]
        rw [PL.out, show l ++ (d1 ++ [32] ++ d2 ++ [10]) = l ++ d1 ++ [32] ++ d2 ++ [10] by simp, ← h4, ← h3, ← h2, ← h1]
      have NL : Hid (l ++ d = plsB (pl.take (k + 1))) := by rw [S1.out, HL.out]; exact Lib.hid rfl
      have BB := Lib.hid (bT HB.out F3.out)
      clear KB E1 E2 F2 F3 HL HB hc0 hc1
      go_wp2
      go_roundw
      case rel => exact ⟨k + 1, l ++ d, by rw [← e1], by go_num, by omega, NL, BB⟩
      case measure => simp [intOf]; omega
    · have g1' : ¬ (k : Int) < (n : Int) := by omega
      have NL : Hid (l = plsB pl) := by
        have := HL.out
        rwa [List.take_of_length_le (by rw [HN.out]; omega)] at this
      clear HL
      go_wp2
      go_ret
      exact ⟨by rw [NL.out]; rfl, HB.out⟩
end Go.Proofs.YtanoklpffenljaaGreatDoor
namespace Go.Proofs.YtanoklpffenljaaGreatDoor
open Go.RowKit
set_option linter.unusedVariables false

def payB (p : LPl) : List UInt8 := lineW [Lib.itoa p.1, mtextOf p.2]
def pysB (pl : List LPl) : List UInt8 := pl.flatMap payB
def sumP (pl : List LPl) : Int := (pl.map fun p => p.2).sum
def totW : List UInt8 := [116, 111, 116, 97, 108]
structure PayOk (pl : List LPl) : Prop where
  len : pl.length ≤ 12
  each : ∀ p ∈ pl, wfI p.1 ∧ 0 ≤ p.2 ∧ p.2 ≤ 1000000000
noncomputable def pyT (rs : List LSt) (ps : List LPr) (top pr st bu : Int) (bs : List LPr) (ls : List LPl) (us : List Int) (ai fx : Int) (gc gf : Bool) : List UInt8 :=
  if B (StgR rs ps top pr st bu bs ls us ai fx gc gf) = true ∧ gc = true then pysB (paysL bs) ++ lineW [totW, mtextOf (sumP (paysL bs))] else []
theorem payB_le (p : LPl) (h : wfI p.1) : (payB p).length ≤ 47 := by
  have h1 := itoa_all p.1 h
  have h2 := mtextOf_le p.2
  unfold payB
  rw [line2]
  simp
  omega
theorem pysB_step (pl : List LPl) (k : Nat) (h : k < pl.length) : pysB (pl.take (k + 1)) = pysB (pl.take k) ++ payB pl[k] := by
  unfold pysB
  rw [List.take_add_one, List.getElem?_eq_getElem h, List.flatMap_append]
  simp
theorem pysB_le (pl : List LPl) (h : PayOk pl) (k : Nat) : (pysB (pl.take k)).length ≤ 47 * k := by
  induction k with
  | zero => simp [pysB]
  | succ k ih =>
    by_cases hk : k < pl.length
    · rw [pysB_step pl k hk, List.length_append]
      have := payB_le pl[k] (h.each _ (List.getElem_mem hk)).1
      omega
    · rw [List.take_of_length_le (by omega)] at *
      omega
theorem sumP_step (pl : List LPl) (k : Nat) (h : k < pl.length) : sumP (pl.take (k + 1)) = sumP (pl.take k) + pl[k].2 := by
  unfold sumP
  rw [List.take_add_one, List.getElem?_eq_getElem h, List.map_append, List.sum_append]
  simp
theorem sumP_le (pl : List LPl) (h : PayOk pl) (k : Nat) : 0 ≤ sumP (pl.take k) ∧ sumP (pl.take k) ≤ 1000000000 * (k : Int) := by
  induction k with
  | zero => simp [sumP]
  | succ k ih =>
    by_cases hk : k < pl.length
    · rw [sumP_step pl k hk]
      have := (h.each _ (List.getElem_mem hk)).2
      omega
    · rw [List.take_of_length_le (by omega)] at *
      omega
theorem clk_pay {rs : List LSt} {ps : List LPr} {top pr st bu : Int} {bs : List LPr} {ls : List LPl} (h : ClkR rs ps top pr st bu bs ls) : PayOk (paysL bs) := by
  have hb := clk_bds h
  have ho := h.2.2.1.2
  refine ⟨Nat.le_trans (paysL_len bs) hb.1, fun p hp => ?_⟩
  obtain ⟨b, hbm, rfl⟩ := List.mem_map.1 hp
  have hm := (List.mem_filter.1 hbm).1
  have := (ho b hm).2
  exact ⟨hb.2 b hm, this.1, this.2⟩
set_option maxRecDepth 100000 in
set_option maxHeartbeats 2000000 in
/-- impl.payLine. -/
theorem pyl_any (a b : Int) (ha : wfI a) (w : World) (ht : PowTab w) :
    Calls Tryz.prog 41 #[.agg #[.int .i64 a, .int .i64 b]] w fun e w' => e = .returned (.string ⟨(payB (a, b)).toArray⟩) ∧ Below w.heap.size w w' := by
  have hd1 := itoa_all a ha
  have hd2 := mtextOf_le b
  have HT : Hid (PowTab (w.alloc (.cells #[.int .i64 a, .int .i64 b] 73))) := ht.below (bA0 _ _)
  have B0 := Lib.hid (bA0 w (.cells #[.int .i64 a, .int .i64 b] 73))
  have KB : Hid (∀ W, Below (w.alloc (.cells #[.int .i64 a, .int .i64 b] 73)).heap.size (w.alloc (.cells #[.int .i64 a, .int .i64 b] 73)) W → w.heap.size < W.heap.size ∧ W.cell? ⟨w.heap.size, 0, none⟩ = some (.int .i64 a) ∧ W.cell? ⟨w.heap.size, 1, none⟩ = some (.int .i64 b)) := fun W hW => by
    have hs := hW.size
    simp at hs
    exact ⟨by omega, (hW.cell (by simp)).trans (by rw [World.cell?_alloc_new]; rfl), (hW.cell (by simp)).trans (by rw [World.cell?_alloc_new]; rfl)⟩
  generalize hw0 : w.alloc (.cells #[.int .i64 a, .int .i64 b] 73) = w0 at *
  have E1 : Hid (∀ W, Below w0.heap.size w0 W → Calls Tryz.prog 46 #[.int .i64 a] W fun e w' => e = .returned (.string ⟨(Lib.itoa a).toArray⟩) ∧ Below W.heap.size W w') := fun W hW => dig_any a ha W (HT.out.below hW)
  have E2 : Hid (∀ W, Below w0.heap.size w0 W → Calls Tryz.prog 43 #[.int .i64 b] W fun e w' => e = .returned (.string ⟨(mtextOf b).toArray⟩) ∧ Below W.heap.size W w') := fun W hW => imt_any b W (HT.out.below hW)
  have hLN := Lib.hid (show payB (a, b) = lineW [Lib.itoa a, mtextOf b] from rfl)
  generalize payB (a, b) = ln at *
  generalize Lib.itoa a = d1 at *
  generalize mtextOf b = d2 at *
  have E3 : Hid (∀ W : World, Calls Tryz.prog 42 #[.slice (some ⟨W.heap.size, 0, none⟩) 2 2] (W.alloc (.cells #[.string ⟨d1.toArray⟩, .string ⟨d2.toArray⟩] 9)) fun e w' => e = .returned (.string ⟨ln.toArray⟩) ∧ Below (W.alloc (.cells #[.string ⟨d1.toArray⟩, .string ⟨d2.toArray⟩] 9)).heap.size (W.alloc (.cells #[.string ⟨d1.toArray⟩, .string ⟨d2.toArray⟩] 9)) w') := fun W => by
    rw [hLN.out]
    exact col_any W.heap.size 2 [d1, d2] _ (two_words W d1 d2) (by simp) (by simp) (by simp) (by simp [Lib.join, List.intercalate]; omega)
  clear hd1 hd2 ha ht hLN HT
  go_enter Tryz.func41, Tryz.ntmps41
  go_wp2_with fail
  try rw [hw0]
  refine wp_region_held_drew (S := fun W => w.heap.size < W.heap.size ∧ W.cell? ⟨w.heap.size, 0, none⟩ = some (.int .i64 a) ∧ W.cell? ⟨w.heap.size, 1, none⟩ = some (.int .i64 b)) (by kernel_rfl) ?_ (fun hHeld => ?_)
  · exact KB.out _ (Below.refl _ _).drew
  refine wpAnyH_take (i := 0) (oi := _) (v := ?_) rfl (by kernel_rfl) (by kernel_rfl) (by kernel_rfl) (fun _ _ _ h => h) (Or.inl ⟨by rfl, ?_⟩) (by assumption) ?_
  rotate_left
  · first | (intro w hSw; (try dsimp only at hSw); go_simp; done) | (intro w hSw; (try dsimp only at hSw); go_simp; with_reducible rfl)
  try simp only [Act.put, List.setIfInBounds_toArray, List.set_cons_zero, List.set_cons_succ, List.getElem_toArray, List.getElem_cons_zero]
  refine wpAnyH_take (i := 1) (oi := _) (v := ?_) rfl (by kernel_rfl) (by kernel_rfl) (by kernel_rfl) (fun _ _ _ h => h) (Or.inl ⟨by rfl, ?_⟩) (by assumption) ?_
  rotate_left
  · first | (intro w hSw; (try dsimp only at hSw); go_simp; done) | (intro w hSw; (try dsimp only at hSw); go_simp; with_reducible rfl)
  try simp only [Act.put, List.setIfInBounds_toArray, List.set_cons_zero, List.set_cons_succ, List.getElem_toArray, List.getElem_cons_succ, List.getElem_cons_zero]
  refine wpAnyH_take (i := 3) (oi := _) (v := ?_) rfl (by kernel_rfl) (by kernel_rfl) (by kernel_rfl) (fun _ _ _ h => h) (Or.inl ⟨by rfl, ?_⟩) (by assumption) ?_
  rotate_left
  · first | (intro w hSw; (try dsimp only at hSw); go_simp; done) | (intro w hSw; (try dsimp only at hSw); go_simp; with_reducible rfl)
  try simp only [Act.put, List.setIfInBounds_toArray, List.set_cons_zero, List.set_cons_succ, List.getElem_toArray, List.getElem_cons_succ, List.getElem_cons_zero]
  refine wpAnyH_take (i := 4) (oi := _) (v := ?_) rfl (by kernel_rfl) (by kernel_rfl) (by kernel_rfl) (fun _ _ _ h => h) (Or.inl ⟨by rfl, ?_⟩) (by assumption) ?_
  rotate_left
  · first | (intro w hSw; (try dsimp only at hSw); go_simp; done) | (intro w hSw; (try dsimp only at hSw); go_simp; with_reducible rfl)
  try simp only [Act.put, List.setIfInBounds_toArray, List.set_cons_zero, List.set_cons_succ, List.getElem_toArray, List.getElem_cons_succ, List.getElem_cons_zero]
  refine wpAnyH_ready (rs := [2]) (by kernel_rfl) (by simp) ?_
  refine AllReadyH.cons rfl (fun K hK => ?_) AllReadyH.nil
  go_simp
  go_wp2_with (go_at_call 46; refine (E1.out _ (Below.refl _ _).drew).mono ?_; rintro e w2 ⟨rfl, b1⟩)
  have F2 : Hid (Below w0.heap.size w0 w2) := bT (Below.refl w0.heap.size w0).drew b1
  clear b1
  refine hK.out _ _ ?_ (fun hHeld => ?_)
  · exact KB.out _ F2.out
  clear hK K
  refine wpAnyH_ready (rs := [5]) (by kernel_rfl) (by simp) ?_
  refine AllReadyH.cons rfl (fun K hK => ?_) AllReadyH.nil
  go_simp
  go_wp2_with (go_at_call 43; refine (E2.out _ F2.out).mono ?_; rintro e w3 ⟨rfl, b1⟩)
  have F3 : Hid (Below w0.heap.size w0 w3) := bT F2.out b1
  clear b1
  refine hK.out _ _ ?_ (fun hHeld => ?_)
  · exact KB.out _ F3.out
  clear hK K
  refine wpAnyH_ready (rs := [6]) (by kernel_rfl) (by simp) ?_
  refine AllReadyH.cons rfl (fun K hK => ?_) AllReadyH.nil
  go_simp
  go_wp2
  refine hK.out _ _ ?_ (fun hHeld => ?_)
  · exact KB.out _ (bA F3.out _)
  clear hK K
  refine wpAnyH_ready (rs := [7]) (by kernel_rfl) (by simp) ?_
  refine AllReadyH.cons rfl (fun K hK => ?_) AllReadyH.nil
  go_simp
  go_wp2_with (go_at_call 42; refine (E3.out w3).mono ?_; rintro e w4 ⟨rfl, b1⟩)
  have F4 : Hid (Below w0.heap.size w0 w4) := bT (bA F3.out _) b1
  clear b1
  refine hK.out _ _ ?_ (fun hHeld => ?_)
  · exact KB.out _ F4.out
  clear hK K
  refine wpAnyH_take (i := 8) (oi := _) (v := ?_) rfl (by kernel_rfl) (by kernel_rfl) (by kernel_rfl) (fun _ _ _ h => h) (Or.inl ⟨by rfl, ?_⟩) (by assumption) ?_
  rotate_left
  · first | (intro w hSw; (try dsimp only at hSw); go_simp; done) | (intro w hSw; (try dsimp only at hSw); go_simp; with_reducible rfl)
  try simp only [Act.put, List.setIfInBounds_toArray, List.set_cons_zero, List.set_cons_succ, List.getElem_toArray, List.getElem_cons_succ, List.getElem_cons_zero]
  refine wpAnyH_done (by kernel_rfl) ?_ _
  have BB := bT B0.out F4.out
  clear KB E1 E2 E3 F2 F3 F4
  go_wp2
  go_ret
  exact ⟨rfl, BB⟩
abbrev PYF : Value := .func (.func 41) #[] #[]
set_option maxRecDepth 100000 in
set_option maxHeartbeats 2000000 in
/-- impl.linesOf over Pays. -/
theorem lpy_any (sl : Option Addr) (cap : Nat) (pl : List LPl) (w : World) (hw : PayOk pl) (hz : Pls w sl pl) (ht : PowTab w) :
    Calls Tryz.prog 40 #[.slice sl pl.length cap, PYF] w fun e w' => e = .returned (.string ⟨(pysB pl).toArray⟩) ∧ Below w.heap.size w w' := by
  have hn : pl.length ≤ 1000 := by have := hw.len; omega
  have HZ := Lib.hid hz
  have HT := Lib.hid ht
  have HW := Lib.hid hw
  have AL := Lib.hid (pysB_le pl hw)
  have HX0 := Lib.hid (new_bd w)
  have B0 := Lib.hid (bA0 w (.cells #[.pointer none, .slice none 0 0] 107))
  clear hz ht hw
  generalize hN : pl.length = n at *
  have HN := Lib.hid hN
  clear hN
  go_enter Tryz.func40, Tryz.ntmps40
  go_wp2_with fail
  generalize w.alloc (.cells #[.pointer none, .slice none 0 0] 107) = w0 at *
  go_loopw [11] (fun i wr => ∃ (k : Nat) (l : List UInt8), i = .int .i64 k ∧ k ≤ n ∧ Hid (l = pysB (pl.take k)) ∧ Hid (Bd w.heap.size w.heap.size (Lib.byteCells l) wr) ∧ Hid (Below w.heap.size w wr)) (fun i _ => n - (intOf i).toNat)
  case atStart => exact ⟨0, [], rfl, Nat.zero_le _, (by show [] = pysB (pl.take 0); simp [pysB]), HX0, B0⟩
  case round =>
    obtain ⟨k, l, rfl, hk, HL, XB, HB⟩ := hrel
    have hk0 : (0 : Int) ≤ (k : Int) := by omega
    by_cases g1 : k < n
    · have g1' : (k : Int) < (n : Int) := by omega
      have hlt : k < pl.length := by rw [HN.out]; exact g1
      obtain ⟨c, o, rfl, Z0⟩ : ∃ c o, sl = some ⟨c, o, none⟩ ∧ PlAt w c o pl := by
        rcases HZ.out with e | h
        · rw [e] at hlt; simp at hlt
        · exact h
      have hc0 := (HB.out.cell Z0.lt).trans (Z0.cell k hlt).1
      have hc1 := (HB.out.cell Z0.lt).trans (Z0.cell k hlt).2
      have S1 := Lib.hid (pysB_step pl k hlt)
      have LL := Lib.hid (AL.out k)
      obtain ⟨a, b, hp⟩ : ∃ a b, pl[k] = (a, b) := ⟨_, _, rfl⟩
      have HWk := HW.out.each _ (List.getElem_mem hlt)
      rw [hp] at hc0 hc1 S1 HWk
      dsimp only at hc0 hc1 HWk
      have E1 := Lib.hid (pyl_any a b HWk.1 (wr.alloc (.cells #[.int .i64 a, .int .i64 b] 73)) ((HT.out.below HB.out).below (bA0 _ _)))
      have hd := payB_le (a, b) HWk.1
      have B1 := Lib.hid (bA0 wr (.cells #[.int .i64 a, .int .i64 b] 73))
      have NC : Hid ((wr.alloc (.cells #[.int .i64 a, .int .i64 b] 73)).heap[wr.heap.size]? = some (.cells #[.int .i64 a, .int .i64 b] 73)) := by show (wr.heap.push _)[wr.heap.size]? = _; simp
      have hwb := HB.out.size
      clear hlt hp Z0 HWk
      generalize payB (a, b) = d at *
      go_wp2_with fail
      refine E1.out.mono ?_
      rintro e w2 ⟨rfl, b2⟩
      have D2 := Lib.hid (bT B1.out b2)
      have X2 : Hid (Bd w.heap.size w.heap.size (Lib.byteCells l) w2) := Lib.hid (bd_below XB.out D2.out)
      have hll : l.length ≤ 47 * k := by rw [HL.out]; exact LL.out
      have E2 := Lib.hid (ws_text d X2.out (by omega) (by have := D2.out.size; omega))
      have F2 := Lib.hid (bT HB.out D2.out)
      clear b2 E1 D2 hc0 hc1
      go_wp2_with fail
      refine E2.out.mono ?_
      rintro e w3 ⟨rfl, x3, b3⟩
      have X3 := Lib.hid x3
      have F3 := Lib.hid (F2.out.trans b3)
      have NL : Hid (l ++ d = pysB (pl.take (k + 1))) := by rw [S1.out, HL.out]; exact Lib.hid rfl
      clear x3 b3 E2 X2 F2 XB HB HL
      go_wp2
      go_roundw
      case rel => exact ⟨k + 1, l ++ d, by go_num, by omega, NL, X3, F3⟩
      case measure => simp [intOf]; omega
    · have g1' : ¬ (k : Int) < (n : Int) := by omega
      have NL : Hid (l = pysB pl) := by
        have := HL.out
        rwa [List.take_of_length_le (by rw [HN.out]; omega)] at this
      have hwb := HB.out.size
      have E2 := Lib.hid (Tryz.Builder_String_any w.heap.size w.heap.size l wr XB.out hwb)
      clear HL XB
      go_wp2_with fail
      refine E2.out.mono ?_
      rintro e w2 ⟨rfl, b2⟩
      have D2 := Lib.hid (HB.out.trans b2)
      go_wp2
      go_ret
      exact ⟨by rw [NL.out]; rfl, D2.out⟩

set_option maxRecDepth 100000 in
set_option maxHeartbeats 4000000 in
/-- impl.PaysText. -/
theorem ipy_any (sl : Option Addr) (cap : Nat) (tl : Option Addr) (kap : Nat) (top pr st bu : Int) (bl : Option Addr) (cb : Nat) (pl : Option Addr) (cp : Nat) (ul : Option Addr) (cu : Nat) (ai fx : Int) (gc gf : Bool) (rs : List LSt) (ps : List LPr) (bs : List LPr) (ls : List LPl) (us : List Int) (w : World) (hn : rs.length ≤ 1048576) (hq : bs.length ≤ 1048576) (hl : ls.length ≤ 1048576) (hu : us.length ≤ 1048576) (hcp : ls.length ≤ cp) (hz : Sts w sl rs) (hp : Prs w tl ps) (hw : ∀ p ∈ ps, WfP p) (hbs : Prs w bl bs) (hls : Pls w pl ls) (hus : Ints w ul us) (ht : PowTab w) :
    Calls Tryz.prog 14 #[SgV sl rs.length cap tl ps.length kap top pr st bu bl bs.length cb pl ls.length cp ul us.length cu ai fx gc gf] w fun e w' => e = .returned (.string ⟨(pyT rs ps top pr st bu bs ls us ai fx gc gf).toArray⟩) ∧ Below w.heap.size w w' := by
  have CR : Hid (∀ W, Below w.heap.size w W → Calls Tryz.prog 38 #[SgV sl rs.length cap tl ps.length kap top pr st bu bl bs.length cb pl ls.length cp ul us.length cu ai fx gc gf] W fun e w' => e = .returned (.bool (B (StgR rs ps top pr st bu bs ls us ai fx gc gf))) ∧ Below W.heap.size W w') := fun W hW => isr_any sl cap tl kap top pr st bu bl cb pl cp ul cu ai fx gc gf rs ps bs ls us W hn hq hl hu hcp (hz.below hW) (hp.below hW) hw (hbs.below hW) (hls.below hW) (hus.below hW)
  have CP : Hid (∀ W, Below w.heap.size w W → Calls Tryz.prog 39 #[SgV sl rs.length cap tl ps.length kap top pr st bu bl bs.length cb pl ls.length cp ul us.length cu ai fx gc gf] W fun e w' => ∃ v, e = .returned v ∧ w'.ownsRow W.heap.size 73 2 v (payA rs ps top pr st bu bs ls us ai fx gc gf).length (enCells (payA rs ps top pr st bu bs ls us ai fx gc gf)) ∧ Below W.heap.size W w') := fun W hW => isp_any sl cap tl kap top pr st bu bl cb pl cp ul cu ai fx gc gf rs ps bs ls us W hn hq hl hu hcp (hz.below hW) (hp.below hW) hw (hbs.below hW) (hls.below hW) (hus.below hW)
  have HT := Lib.hid (show pyT rs ps top pr st bu bs ls us ai fx gc gf = if B (StgR rs ps top pr st bu bs ls us ai fx gc gf) = true ∧ gc = true then pysB (paysL bs) ++ lineW [totW, mtextOf (sumP (paysL bs))] else [] from rfl)
  have HP := Lib.hid (show payA rs ps top pr st bu bs ls us ai fx gc gf = if B (StgR rs ps top pr st bu bs ls us ai fx gc gf) = true ∧ gc = true then paysL bs else [] from rfl)
  have HO : Hid (B (StgR rs ps top pr st bu bs ls us ai fx gc gf) = true → PayOk (paysL bs)) := fun h => clk_pay (B_true h).1
  have PT := Lib.hid ht
  clear hn hq hl hu hcp hz hp hw hbs hls hus ht
  generalize pyT rs ps top pr st bu bs ls us ai fx gc gf = tx at *
  generalize rs.length = n at *
  generalize ps.length = m at *
  generalize bs.length = q at *
  generalize ls.length = p at *
  generalize us.length = u at *
  cases gc with
  | false =>
    have HE := Lib.hid (show tx = [] by rw [HT.out]; simp)
    have B0 := Lib.hid (bA0 w (.cells (SgC sl n cap tl m kap top pr st bu bl q cb pl p cp ul u cu ai fx false gf) 49))
    clear CR CP
    go_enter Tryz.func14, Tryz.ntmps14
    go_wp2
    go_ret
    exact ⟨by rw [HE.out]; rfl, B0.out⟩
  | true =>
    have N0 := Lib.hid (new_at w (.cells (SgC sl n cap tl m kap top pr st bu bl q cb pl p cp ul u cu ai fx true gf) 49))
    have B0 := Lib.hid (bA0 w (.cells (SgC sl n cap tl m kap top pr st bu bl q cb pl p cp ul u cu ai fx true gf) 49))
    cases hB : B (StgR rs ps top pr st bu bs ls us ai fx true gf) with
    | false =>
      rw [hB] at CR HT
      have HE := Lib.hid (show tx = [] by rw [HT.out]; simp)
      clear CP
      go_enter Tryz.func14, Tryz.ntmps14
      go_wp2_with fail
      refine (CR.out _ B0.out).mono ?_
      rintro e w1 ⟨rfl, b1⟩
      have D1 := Lib.hid (bT B0.out b1)
      go_wp2
      go_ret
      exact ⟨by rw [HE.out]; rfl, D1.out⟩
    | true =>
      have OK := HO.out hB
      have hOK := Lib.hid OK
      rw [hB] at CR HT HP
      have HPE := HP.out
      rw [if_pos ⟨rfl, rfl⟩] at HPE
      rw [HPE] at CP
      have HE := Lib.hid (show tx = pysB (paysL bs) ++ lineW [totW, mtextOf (sumP (paysL bs))] by rw [HT.out, if_pos ⟨rfl, rfl⟩])
      clear HPE HP HT HO hB
      generalize paysL bs = l at *
      have hl12 := OK.len
      have SL := Lib.hid (sumP_le l OK)
      have BL := Lib.hid (pysB_le l OK l.length)
      rw [List.take_length] at BL
      have LW := Lib.hid (line2 totW (mtextOf (sumP l)))
      have ml := mtextOf_le (sumP l)
      clear OK
      have LP : Hid (∀ g cap W, Pls W g l → Below w.heap.size w W → Calls Tryz.prog 40 #[.slice g l.length cap, PYF] W fun e w' => e = .returned (.string ⟨(pysB l).toArray⟩) ∧ Below W.heap.size W w') := fun g cap W hP hW => lpy_any g cap l W hOK.out hP (PT.out.below hW)
      have MT : Hid (∀ W, Below w.heap.size w W → Calls Tryz.prog 43 #[.int .i64 (sumP l)] W fun e w' => e = .returned (.string ⟨(mtextOf (sumP l)).toArray⟩) ∧ Below W.heap.size W w') := fun W hW => imt_any (sumP l) W (PT.out.below hW)
      have E3 : Hid (∀ W : World, Calls Tryz.prog 42 #[.slice (some ⟨W.heap.size, 0, none⟩) 2 2] (W.alloc (.cells #[.string ⟨#[116, 111, 116, 97, 108]⟩, .string ⟨(mtextOf (sumP l)).toArray⟩] 9)) fun e w' => e = .returned (.string ⟨(lineW [totW, mtextOf (sumP l)]).toArray⟩) ∧ Below (W.alloc (.cells #[.string ⟨#[116, 111, 116, 97, 108]⟩, .string ⟨(mtextOf (sumP l)).toArray⟩] 9)).heap.size (W.alloc (.cells #[.string ⟨#[116, 111, 116, 97, 108]⟩, .string ⟨(mtextOf (sumP l)).toArray⟩] 9)) w') := fun W =>
        col_any W.heap.size 2 [totW, mtextOf (sumP l)] _ (two_words W totW (mtextOf (sumP l))) (by simp) (by simp) (by simp) (by simp [Lib.join, List.intercalate, totW]; omega)
      generalize hM : l.length = k at *
      have HM := Lib.hid hM
      clear hM
      go_enter Tryz.func14, Tryz.ntmps14
      go_wp2_with fail
      refine (CR.out _ B0.out).mono ?_
      rintro e w1 ⟨rfl, b1⟩
      have D1 := Lib.hid (bT B0.out b1)
      have N1 := Lib.hid ((b1.block w.heap.size (by simp)).trans N0.out)
      obtain ⟨x0, x1, x2, x3, x4, x5, x6, x7, x8, x9, xa, xb, xc, xf, xl⟩ := cells13 N1.out
      clear b1 N0
      go_wp2_with fail
      refine (CP.out _ D1.out).mono ?_
      rintro e w2 ⟨v2, rfl, own2, b2⟩
      have D2 := Lib.hid (bT D1.out b2)
      have own3 := own2
      rw [← HM.out] at own3
      obtain ⟨g, cg, rfl, hpl⟩ := own_pays own3
      rw [HM.out]
      have P2 : Hid (Pls w2 g l) := by
        rcases hpl with h | ⟨c, hc, hp, -⟩
        · exact .inl h
        · exact .inr ⟨c, 0, hc, hp⟩
      clear own2 own3 hpl b2 x0 x1 x2 x3 x4 x5 x6 x7 x8 x9 xa xb xc xf xl CR CP
      go_wp2_with fail
      go_loopw [4, 19] (fun sv i wr => ∃ (j : Nat) (sm : Int), sv = .int .i64 sm ∧ i = .int .i64 j ∧ j ≤ k ∧ 0 ≤ sm ∧ sm ≤ 1000000000 * (j : Int) ∧ Hid (sm = sumP (l.take j)) ∧ Hid (Below w2.heap.size w2 wr)) (fun _ i _ => k - (intOf i).toNat)
      case atStart => exact ⟨0, 0, rfl, rfl, Nat.zero_le _, by omega, by omega, (by show (0 : Int) = sumP (l.take 0); simp [sumP]), Below.refl _ _⟩
      case round =>
        obtain ⟨j, sm, rfl, rfl, hj, hs0, hs1, HS, HB⟩ := hrel
        have hj0 : (0 : Int) ≤ (j : Int) := by omega
        by_cases g1 : j < k
        · have g1' : (j : Int) < (k : Int) := by omega
          have hlt : j < l.length := by rw [HM.out]; exact g1
          obtain ⟨c, o, rfl, Z0⟩ : ∃ c o, g = some ⟨c, o, none⟩ ∧ PlAt w2 c o l := by
            rcases P2.out with e | h
            · rw [e] at hlt; simp at hlt
            · exact h
          have hc0 := (HB.out.cell Z0.lt).trans (Z0.cell j hlt).1
          have hc1 := (HB.out.cell Z0.lt).trans (Z0.cell j hlt).2
          have S1 := Lib.hid (sumP_step l j hlt)
          obtain ⟨a, b, hpp⟩ : ∃ a b, l[j] = (a, b) := ⟨_, _, rfl⟩
          have hbb := (hOK.out.each _ (List.getElem_mem hlt)).2
          rw [hpp] at hc0 hc1 S1 hbb
          dsimp only at hc0 hc1 hbb
          obtain ⟨hb0, hb1⟩ := hbb
          have BB := Lib.hid (bA HB.out (.cells #[.int .i64 a, .int .i64 b] 73))
          have NS : Hid (sm + b = sumP (l.take (j + 1))) := by show _ = _; rw [S1.out, HS.out]
          have hj12 : (j : Int) ≤ 12 := by omega
          have hsm : sm + b ≤ 1000000000 * ((j + 1 : Nat) : Int) := by push_cast; omega
          clear hlt hpp Z0 HS S1
          go_wp2
          go_roundw
          case rel => exact ⟨j + 1, sm + b, by go_num, by go_num, by omega, by omega, hsm, NS, BB.out⟩
          case measure => simp [intOf]; omega
        · have g1' : ¬ (j : Int) < (k : Int) := by omega
          have NS : Hid (sm = sumP l) := by
            have := HS.out
            rwa [List.take_of_length_le (by rw [HM.out]; omega)] at this
          have DD := Lib.hid (bT D2.out HB.out)
          have PP := Lib.hid (P2.out.below HB.out)
          have L1 := Lib.hid (LP.out g cg wr PP.out DD.out)
          rw [← NS.out] at MT E3 HE ml LW
          have e1 := Lib.hid (ba_app (pysB l) (lineW [totW, mtextOf sm]))
          have hlw : (lineW [totW, mtextOf sm]).length ≤ 40 := by rw [LW.out]; simp [totW]; omega
          have hbl := BL.out
          clear NS HS HB P2 PP BL
          generalize pysB l = pt at *
          generalize mtextOf sm = mt at *
          generalize lineW [totW, mt] = lw at *
          have s1 : ¬ 9223372036854775807 < pt.length + lw.length := by omega
          go_wp2_with fail
          refine L1.out.mono ?_
          rintro e w3 ⟨rfl, b3⟩
          have D3 := Lib.hid (bT DD.out b3)
          clear b3
          go_wp2_with fail
          refine (MT.out _ D3.out).mono ?_
          rintro e w4 ⟨rfl, b4⟩
          have D4 := Lib.hid (bT D3.out b4)
          clear b4
          go_wp2_with fail
          refine (E3.out _).mono ?_
          rintro e w5 ⟨rfl, b5⟩
          have D5 := Lib.hid (bT (bA D4.out _) b5)
          go_wp2
          go_ret
          exact ⟨by rw [HE.out, ← e1.out]; rfl, D5.out⟩

set_option maxRecDepth 100000 in
set_option maxHeartbeats 4000000 in
/-- spec.PaysText. -/
theorem spy_any (sl : Option Addr) (cap : Nat) (tl : Option Addr) (kap : Nat) (top pr st bu : Int) (bl : Option Addr) (cb : Nat) (pl : Option Addr) (cp : Nat) (ul : Option Addr) (cu : Nat) (ai fx : Int) (gc gf : Bool) (rs : List LSt) (ps : List LPr) (bs : List LPr) (ls : List LPl) (us : List Int) (w : World) (hn : rs.length ≤ 1048576) (hq : bs.length ≤ 1048576) (hl : ls.length ≤ 1048576) (hu : us.length ≤ 1048576) (hz : Sts w sl rs) (hp : Prs w tl ps) (hbs : Prs w bl bs) (hls : Pls w pl ls) (hus : Ints w ul us) :
    Calls Tryz.prog 12 #[SgV sl rs.length cap tl ps.length kap top pr st bu bl bs.length cb pl ls.length cp ul us.length cu ai fx gc gf] w fun e w' => e = .returned (.string ⟨(pyT rs ps top pr st bu bs ls us ai fx gc gf).toArray⟩) ∧ Below w.heap.size w w' := by
  have CR : Hid (∀ W, Below w.heap.size w W → Calls Tryz.prog 35 #[SgV sl rs.length cap tl ps.length kap top pr st bu bl bs.length cb pl ls.length cp ul us.length cu ai fx gc gf] W fun e w' => e = .returned (.bool (B (StgR rs ps top pr st bu bs ls us ai fx gc gf))) ∧ Below W.heap.size W w') := fun W hW => ssr_any sl cap tl kap top pr st bu bl cb pl cp ul cu ai fx gc gf rs ps bs ls us W hn hq hl hu (hz.below hW) (hp.below hW) (hbs.below hW) (hls.below hW) (hus.below hW)
  have CP : Hid (∀ W, Below w.heap.size w W → Calls Tryz.prog 36 #[SgV sl rs.length cap tl ps.length kap top pr st bu bl bs.length cb pl ls.length cp ul us.length cu ai fx gc gf] W fun e w' => ∃ v, e = .returned v ∧ w'.ownsRow W.heap.size 73 2 v (payA rs ps top pr st bu bs ls us ai fx gc gf).length (enCells (payA rs ps top pr st bu bs ls us ai fx gc gf)) ∧ Below W.heap.size W w') := fun W hW => ssp_any sl cap tl kap top pr st bu bl cb pl cp ul cu ai fx gc gf rs ps bs ls us W hn hq hl hu (hz.below hW) (hp.below hW) (hbs.below hW) (hls.below hW) (hus.below hW)
  have HT := Lib.hid (show pyT rs ps top pr st bu bs ls us ai fx gc gf = if B (StgR rs ps top pr st bu bs ls us ai fx gc gf) = true ∧ gc = true then pysB (paysL bs) ++ lineW [totW, mtextOf (sumP (paysL bs))] else [] from rfl)
  have HP := Lib.hid (show payA rs ps top pr st bu bs ls us ai fx gc gf = if B (StgR rs ps top pr st bu bs ls us ai fx gc gf) = true ∧ gc = true then paysL bs else [] from rfl)
  have HO : Hid (B (StgR rs ps top pr st bu bs ls us ai fx gc gf) = true → PayOk (paysL bs)) := fun h => clk_pay (B_true h).1
  clear hn hq hl hu hz hp hbs hls hus
  generalize pyT rs ps top pr st bu bs ls us ai fx gc gf = tx at *
  generalize rs.length = n at *
  generalize ps.length = m at *
  generalize bs.length = q at *
  generalize ls.length = p at *
  generalize us.length = u at *
  have N0 := Lib.hid (new_at w (.cells (SgC sl n cap tl m kap top pr st bu bl q cb pl p cp ul u cu ai fx gc gf) 49))
  have B0 := Lib.hid (bA0 w (.cells (SgC sl n cap tl m kap top pr st bu bl q cb pl p cp ul u cu ai fx gc gf) 49))
  cases hB : B (StgR rs ps top pr st bu bs ls us ai fx gc gf) with
  | false =>
    rw [hB] at CR HT
    have HE := Lib.hid (show tx = [] by rw [HT.out]; simp)
    clear CP
    go_enter Tryz.func12, Tryz.ntmps12
    go_wp2_with fail
    refine (CR.out _ B0.out).mono ?_
    rintro e w1 ⟨rfl, b1⟩
    have D1 := Lib.hid (bT B0.out b1)
    go_wp2
    go_ret
    exact ⟨by rw [HE.out]; rfl, D1.out⟩
  | true =>
    have OK := HO.out hB
    have hOK := Lib.hid OK
    rw [hB] at CR HT HP
    cases gc with
    | false =>
      have HE := Lib.hid (show tx = [] by rw [HT.out]; simp)
      clear CP
      go_enter Tryz.func12, Tryz.ntmps12
      go_wp2_with fail
      refine (CR.out _ B0.out).mono ?_
      rintro e w1 ⟨rfl, b1⟩
      have D1 := Lib.hid (bT B0.out b1)
      obtain ⟨x0, x1, x2, x3, x4, x5, x6, x7, x8, x9, xa, xb, xc, xf, xl⟩ := cells13 ((b1.block w.heap.size (by simp)).trans N0.out)
      clear b1
      go_wp2
      go_ret
      exact ⟨by rw [HE.out]; rfl, D1.out⟩
    | true =>
      have HPE := HP.out
      rw [if_pos ⟨rfl, rfl⟩] at HPE
      rw [HPE] at CP
      have HE := Lib.hid (show tx = pysB (paysL bs) ++ lineW [totW, mtextOf (sumP (paysL bs))] by rw [HT.out, if_pos ⟨rfl, rfl⟩])
      clear HPE HP HT HO hB
      generalize paysL bs = l at *
      have hl12 := OK.len
      have SL := Lib.hid (sumP_le l OK)
      have AL := Lib.hid (pysB_le l OK)
      have LW := Lib.hid (line2 totW (mtextOf (sumP l)))
      have ml := mtextOf_le (sumP l)
      clear OK
      generalize hM : l.length = k at *
      have HM := Lib.hid hM
      clear hM
      go_enter Tryz.func12, Tryz.ntmps12
      go_wp2_with fail
      refine (CR.out _ B0.out).mono ?_
      rintro e w1 ⟨rfl, b1⟩
      have D1 := Lib.hid (bT B0.out b1)
      obtain ⟨x0, x1, x2, x3, x4, x5, x6, x7, x8, x9, xa, xb, xc, xf, xl⟩ := cells13 ((b1.block w.heap.size (by simp)).trans N0.out)
      clear b1 N0
      go_wp2_with fail
      refine (CP.out _ D1.out).mono ?_
      rintro e w2 ⟨v2, rfl, own2, b2⟩
      have D2 := Lib.hid (bT D1.out b2)
      have own3 := own2
      rw [← HM.out] at own3
      obtain ⟨g, cg, rfl, hpl⟩ := own_pays own3
      rw [HM.out]
      have P2 : Hid (Pls w2 g l) := by
        rcases hpl with h | ⟨c, hc, hp, -⟩
        · exact .inl h
        · exact .inr ⟨c, 0, hc, hp⟩
      clear own2 own3 hpl b2 x0 x1 x2 x3 x4 x5 x6 x7 x8 x9 xa xb xc xf xl CR CP
      go_wp2_with fail
      go_loopw [3, 4, 6] (fun tv sv i wr => ∃ (j : Nat) (t : List UInt8) (sm : Int), tv = .string ⟨t.toArray⟩ ∧ sv = .int .i64 sm ∧ i = .int .i64 j ∧ j ≤ k ∧ t.length ≤ 47 * j ∧ 0 ≤ sm ∧ sm ≤ 1000000000 * (j : Int) ∧ Hid (t = pysB (l.take j)) ∧ Hid (sm = sumP (l.take j)) ∧ Hid (Below w2.heap.size w2 wr)) (fun _ _ i _ => k - (intOf i).toNat)
      case atStart => exact ⟨0, [], 0, rfl, rfl, rfl, Nat.zero_le _, by simp, by omega, by omega, (by show [] = pysB (l.take 0); simp [pysB]), (by show (0 : Int) = sumP (l.take 0); simp [sumP]), Below.refl _ _⟩
      case round =>
        obtain ⟨j, t, sm, rfl, rfl, rfl, hj, htl, hs0, hs1, HL, HS, HB⟩ := hrel
        have hj0 : (0 : Int) ≤ (j : Int) := by omega
        by_cases g1 : j < k
        · have g1' : (j : Int) < (k : Int) := by omega
          have hlt : j < l.length := by rw [HM.out]; exact g1
          obtain ⟨c, o, rfl, Z0⟩ : ∃ c o, g = some ⟨c, o, none⟩ ∧ PlAt w2 c o l := by
            rcases P2.out with e | h
            · rw [e] at hlt; simp at hlt
            · exact h
          have hc0 := (HB.out.cell Z0.lt).trans (Z0.cell j hlt).1
          have hc1 := (HB.out.cell Z0.lt).trans (Z0.cell j hlt).2
          have hlt2 := Nat.lt_of_lt_of_le Z0.lt HB.out.size
          have S1 := Lib.hid (sumP_step l j hlt)
          have T1 := Lib.hid (pysB_step l j hlt)
          obtain ⟨a, b, hpp⟩ : ∃ a b, l[j] = (a, b) := ⟨_, _, rfl⟩
          have hbb := hOK.out.each _ (List.getElem_mem hlt)
          rw [hpp] at hc0 hc1 S1 T1 hbb
          dsimp only at hc0 hc1 hbb
          obtain ⟨hwa, hb0, hb1⟩ := hbb
          have KB : Hid (∀ W, Below wr.heap.size wr W → W.cell? ⟨c, o + j * 2, none⟩ = some (.int .i64 a) ∧ W.cell? ⟨c, o + j * 2 + 1, none⟩ = some (.int .i64 b)) := fun W hW => ⟨(hW.cell hlt2).trans hc0, (hW.cell hlt2).trans hc1⟩
          have E1 := Lib.hid (fun W => dec_any a (wfI_bd hwa) W)
          have E2 := Lib.hid (fun W => smt_any b W)
          have hd1 := itoa_all a hwa
          have hd2 := mtextOf_le b
          have PL := Lib.hid (show payB (a, b) = Lib.itoa a ++ [32] ++ mtextOf b ++ [10] from line2 _ _)
          have hpl := payB_le (a, b) hwa
          have NS : Hid (sm + b = sumP (l.take (j + 1))) := by show _ = _; rw [S1.out, HS.out]
          have hj12 : (j : Int) ≤ 12 := by omega
          have hsm : sm + b ≤ 1000000000 * ((j + 1 : Nat) : Int) := by push_cast; omega
          clear hlt hpp Z0 HS S1
          generalize payB (a, b) = d at *
          generalize Lib.itoa a = d1 at *
          generalize mtextOf b = d2 at *
          have s1 : ¬ 9223372036854775807 < t.length + d1.length := by omega
          have s2 : ¬ 9223372036854775807 < t.length + d1.length + 1 := by omega
          have s3 : ¬ 9223372036854775807 < t.length + d1.length + 1 + d2.length := by omega
          have s4 : ¬ 9223372036854775807 < t.length + d1.length + 1 + d2.length + 1 := by omega
          go_wp2_with fail
          refine wp_region_held_drew (S := fun W => W.cell? ⟨c, o + j * 2, none⟩ = some (.int .i64 a) ∧ W.cell? ⟨c, o + j * 2 + 1, none⟩ = some (.int .i64 b)) (by kernel_rfl) ?_ (fun hHeld => ?_)
          · exact KB.out _ (Below.refl _ _).drew
          refine wpAnyH_take (i := 0) (oi := _) (v := ?_) rfl (by kernel_rfl) (by kernel_rfl) (by kernel_rfl) (fun _ _ _ h => h) (Or.inl ⟨by rfl, ?_⟩) (by assumption) ?_
          rotate_left
          · first | (intro w hSw; (try dsimp only at hSw); go_simp; done) | (intro w hSw; (try dsimp only at hSw); go_simp; with_reducible rfl)
          try simp only [Act.put, List.setIfInBounds_toArray, List.set_cons_zero, List.set_cons_succ, List.getElem_toArray, List.getElem_cons_zero]
          refine wpAnyH_take (i := 1) (oi := _) (v := ?_) rfl (by kernel_rfl) (by kernel_rfl) (by kernel_rfl) (fun _ _ _ h => h) (Or.inl ⟨by rfl, ?_⟩) (by assumption) ?_
          rotate_left
          · first | (intro w hSw; (try dsimp only at hSw); go_simp; done) | (intro w hSw; (try dsimp only at hSw); go_simp; with_reducible rfl)
          try simp only [Act.put, List.setIfInBounds_toArray, List.set_cons_zero, List.set_cons_succ, List.getElem_toArray, List.getElem_cons_succ, List.getElem_cons_zero]
          refine wpAnyH_take (i := 2) (oi := _) (v := ?_) rfl (by kernel_rfl) (by kernel_rfl) (by kernel_rfl) (fun _ _ _ h => h) (Or.inl ⟨by rfl, ?_⟩) (by assumption) ?_
          rotate_left
          · first | (intro w hSw; (try dsimp only at hSw); go_simp; done) | (intro w hSw; (try dsimp only at hSw); go_simp; with_reducible rfl)
          try simp only [Act.put, List.setIfInBounds_toArray, List.set_cons_zero, List.set_cons_succ, List.getElem_toArray, List.getElem_cons_succ, List.getElem_cons_zero]
          refine wpAnyH_take (i := 3) (oi := _) (v := ?_) rfl (by kernel_rfl) (by kernel_rfl) (by kernel_rfl) (fun _ _ _ h => h) (Or.inl ⟨by rfl, ?_⟩) (by assumption) ?_
          rotate_left
          · first | (intro w hSw; (try dsimp only at hSw); go_simp; done) | (intro w hSw; (try dsimp only at hSw); go_simp; with_reducible rfl)
          try simp only [Act.put, List.setIfInBounds_toArray, List.set_cons_zero, List.set_cons_succ, List.getElem_toArray, List.getElem_cons_succ, List.getElem_cons_zero]
          refine wpAnyH_take (i := 4) (oi := _) (v := ?_) rfl (by kernel_rfl) (by kernel_rfl) (by kernel_rfl) (fun _ _ _ h => h) (Or.inl ⟨by rfl, ?_⟩) (by assumption) ?_
          rotate_left
          · first | (intro w hSw; (try dsimp only at hSw); go_simp; done) | (intro w hSw; (try dsimp only at hSw); go_simp; with_reducible rfl)
          try simp only [Act.put, List.setIfInBounds_toArray, List.set_cons_zero, List.set_cons_succ, List.getElem_toArray, List.getElem_cons_succ, List.getElem_cons_zero]
          refine wpAnyH_take (i := 5) (oi := _) (v := ?_) rfl (by kernel_rfl) (by kernel_rfl) (by kernel_rfl) (fun _ _ _ h => h) (Or.inl ⟨by rfl, ?_⟩) (by assumption) ?_
          rotate_left
          · first | (intro w hSw; (try dsimp only at hSw); go_simp; done) | (intro w hSw; (try dsimp only at hSw); go_simp; with_reducible rfl)
          try simp only [Act.put, List.setIfInBounds_toArray, List.set_cons_zero, List.set_cons_succ, List.getElem_toArray, List.getElem_cons_succ, List.getElem_cons_zero]
          refine wpAnyH_take (i := 9) (oi := _) (v := ?_) rfl (by kernel_rfl) (by kernel_rfl) (by kernel_rfl) (fun _ _ _ h => h) (Or.inl ⟨by rfl, ?_⟩) (by assumption) ?_
          rotate_left
          · first | (intro w hSw; (try dsimp only at hSw); go_simp; done) | (intro w hSw; (try dsimp only at hSw); go_simp; with_reducible rfl)
          try simp only [Act.put, List.setIfInBounds_toArray, List.set_cons_zero, List.set_cons_succ, List.getElem_toArray, List.getElem_cons_succ, List.getElem_cons_zero]
          refine wpAnyH_take (i := 10) (oi := _) (v := ?_) rfl (by kernel_rfl) (by kernel_rfl) (by kernel_rfl) (fun _ _ _ h => h) (Or.inl ⟨by rfl, ?_⟩) (by assumption) ?_
          rotate_left
          · first | (intro w hSw; (try dsimp only at hSw); go_simp; done) | (intro w hSw; (try dsimp only at hSw); go_simp; with_reducible rfl)
          try simp only [Act.put, List.setIfInBounds_toArray, List.set_cons_zero, List.set_cons_succ, List.getElem_toArray, List.getElem_cons_succ, List.getElem_cons_zero]
          refine wpAnyH_take (i := 11) (oi := _) (v := ?_) rfl (by kernel_rfl) (by kernel_rfl) (by kernel_rfl) (fun _ _ _ h => h) (Or.inl ⟨by rfl, ?_⟩) (by assumption) ?_
          rotate_left
          · first | (intro w hSw; (try dsimp only at hSw); go_simp; done) | (intro w hSw; (try dsimp only at hSw); go_simp; with_reducible rfl)
          try simp only [Act.put, List.setIfInBounds_toArray, List.set_cons_zero, List.set_cons_succ, List.getElem_toArray, List.getElem_cons_succ, List.getElem_cons_zero]
          refine wpAnyH_take (i := 12) (oi := _) (v := ?_) rfl (by kernel_rfl) (by kernel_rfl) (by kernel_rfl) (fun _ _ _ h => h) (Or.inl ⟨by rfl, ?_⟩) (by assumption) ?_
          rotate_left
          · first | (intro w hSw; (try dsimp only at hSw); go_simp; done) | (intro w hSw; (try dsimp only at hSw); go_simp; with_reducible rfl)
          try simp only [Act.put, List.setIfInBounds_toArray, List.set_cons_zero, List.set_cons_succ, List.getElem_toArray, List.getElem_cons_succ, List.getElem_cons_zero]
          refine wpAnyH_take (i := 13) (oi := _) (v := ?_) rfl (by kernel_rfl) (by kernel_rfl) (by kernel_rfl) (fun _ _ _ h => h) (Or.inl ⟨by rfl, ?_⟩) (by assumption) ?_
          rotate_left
          · first | (intro w hSw; (try dsimp only at hSw); go_simp; done) | (intro w hSw; (try dsimp only at hSw); go_simp; with_reducible rfl)
          try simp only [Act.put, List.setIfInBounds_toArray, List.set_cons_zero, List.set_cons_succ, List.getElem_toArray, List.getElem_cons_succ, List.getElem_cons_zero]
          refine wpAnyH_ready (rs := [6]) (by kernel_rfl) (by simp) ?_
          refine AllReadyH.cons rfl (fun K hK => ?_) AllReadyH.nil
          go_simp
          go_wp2_with (go_at_call 22; refine (E1.out _).mono ?_; rintro e w6 ⟨rfl, b1⟩)
          have F2 : Hid (Below wr.heap.size wr w6) := bT (Below.refl wr.heap.size wr).drew b1
          clear b1
          refine hK.out _ _ ?_ (fun hHeld => ?_)
          · exact KB.out _ F2.out
          clear hK K
          refine wpAnyH_take (i := 7) (oi := _) (v := ?_) rfl (by kernel_rfl) (by kernel_rfl) (by kernel_rfl) (fun _ _ _ h => h) (Or.inl ⟨by rfl, ?_⟩) (by assumption) ?_
          rotate_left
          · first | (intro w hSw; (try dsimp only at hSw); go_simp; done) | (intro w hSw; (try dsimp only at hSw); go_simp; with_reducible rfl)
          try simp only [Act.put, List.setIfInBounds_toArray, List.set_cons_zero, List.set_cons_succ, List.getElem_toArray, List.getElem_cons_succ, List.getElem_cons_zero]
          refine wpAnyH_take (i := 8) (oi := _) (v := ?_) rfl (by kernel_rfl) (by kernel_rfl) (by kernel_rfl) (fun _ _ _ h => h) (Or.inl ⟨by rfl, ?_⟩) (by assumption) ?_
          rotate_left
          · first | (intro w hSw; (try dsimp only at hSw); go_simp; done) | (intro w hSw; (try dsimp only at hSw); go_simp; with_reducible rfl)
          try simp only [Act.put, List.setIfInBounds_toArray, List.set_cons_zero, List.set_cons_succ, List.getElem_toArray, List.getElem_cons_succ, List.getElem_cons_zero]
          refine wpAnyH_ready (rs := [14]) (by kernel_rfl) (by simp) ?_
          refine AllReadyH.cons rfl (fun K hK => ?_) AllReadyH.nil
          go_simp
          go_wp2_with (go_at_call 24; refine (E2.out _).mono ?_; rintro e w7 ⟨rfl, b1⟩)
          have F3 : Hid (Below wr.heap.size wr w7) := bT F2.out b1
          clear b1
          refine hK.out _ _ ?_ (fun hHeld => ?_)
          · exact KB.out _ F3.out
          clear hK K
          refine wpAnyH_take (i := 15) (oi := _) (v := ?_) rfl (by kernel_rfl) (by kernel_rfl) (by kernel_rfl) (fun _ _ _ h => h) (Or.inl ⟨by rfl, ?_⟩) (by assumption) ?_
          rotate_left
          · first | (intro w hSw; (try dsimp only at hSw); go_simp; done) | (intro w hSw; (try dsimp only at hSw); go_simp; with_reducible rfl)
          try simp only [Act.put, List.setIfInBounds_toArray, List.set_cons_zero, List.set_cons_succ, List.getElem_toArray, List.getElem_cons_succ, List.getElem_cons_zero]
          refine wpAnyH_take (i := 16) (oi := _) (v := ?_) rfl (by kernel_rfl) (by kernel_rfl) (by kernel_rfl) (fun _ _ _ h => h) (Or.inl ⟨by rfl, ?_⟩) (by assumption) ?_
          rotate_left
          · first | (intro w hSw; (try dsimp only at hSw); go_simp; done) | (intro w hSw; (try dsimp only at hSw); go_simp; with_reducible rfl)
          try simp only [Act.put, List.setIfInBounds_toArray, List.set_cons_zero, List.set_cons_succ, List.getElem_toArray, List.getElem_cons_succ, List.getElem_cons_zero]
          refine wpAnyH_take (i := 17) (oi := _) (v := ?_) rfl (by kernel_rfl) (by kernel_rfl) (by kernel_rfl) (fun _ _ _ h => h) (Or.inl ⟨by rfl, ?_⟩) (by assumption) ?_
          rotate_left
          · first | (intro w hSw; (try dsimp only at hSw); go_simp; done) | (intro w hSw; (try dsimp only at hSw); go_simp; with_reducible rfl)
          try simp only [Act.put, List.setIfInBounds_toArray, List.set_cons_zero, List.set_cons_succ, List.getElem_toArray, List.getElem_cons_succ, List.getElem_cons_zero]
          refine wpAnyH_done (by kernel_rfl) ?_ _
          have e1 : ((⟨t.toArray⟩ : ByteArray) ++ ⟨d1.toArray⟩ ++ ⟨#[32]⟩ ++ ⟨d2.toArray⟩ ++ ⟨#[10]⟩) = ⟨(t ++ d).toArray⟩ := by
            have h1 := ba_app t d1
            have h2 := ba_app (t ++ d1) [32]
            have h3 := ba_app (t ++ d1 ++ [32]) d2
            have h4 := ba_app (t ++ d1 ++ [32] ++ d2) [10]
            rw [PL.out, show t ++ (d1 ++ [32] ++ d2 ++ [10]) = t ++ d1 ++ [32] ++ d2 ++ [10] by simp, ← h4, ← h3, ← h2, ← h1]
          have NL : Hid (t ++ d = pysB (l.take (j + 1))) := by rw [T1.out, HL.out]; exact Lib.hid rfl
          have hnl : (t ++ d).length ≤ 47 * (j + 1) := by simp; omega
          have BB := Lib.hid (bT HB.out F3.out)
          obtain ⟨y0, y1⟩ := KB.out _ F3.out
          clear KB E1 E2 F2 F3 HL HB hc0 hc1
          go_wp2
          go_roundw
          case rel => exact ⟨j + 1, t ++ d, sm + b, by rw [← e1], by go_num, by go_num, by omega, hnl, by omega, hsm, NL, NS, BB⟩
          case measure => simp [intOf]; omega
        · have g1' : ¬ (j : Int) < (k : Int) := by omega
          have NS : Hid (sm = sumP l) := by
            have := HS.out
            rwa [List.take_of_length_le (by rw [HM.out]; omega)] at this
          have NL : Hid (t = pysB l) := by
            have := HL.out
            rwa [List.take_of_length_le (by rw [HM.out]; omega)] at this
          have DD := Lib.hid (bT D2.out HB.out)
          rw [← NS.out, ← NL.out] at HE
          rw [← NS.out] at LW ml
          have MT := Lib.hid (fun W => smt_any sm W)
          generalize mtextOf sm = mt at *
          have e1 : ((⟨t.toArray⟩ : ByteArray) ++ ⟨#[116, 111, 116, 97, 108, 32]⟩ ++ ⟨mt.toArray⟩ ++ ⟨#[10]⟩) = ⟨(t ++ lineW [totW, mt]).toArray⟩ := by
            have h1 := ba_app t [116, 111, 116, 97, 108, 32]
            have h2 := ba_app (t ++ [116, 111, 116, 97, 108, 32]) mt
            have h3 := ba_app (t ++ [116, 111, 116, 97, 108, 32] ++ mt) [10]
            rw [LW.out, show t ++ (totW ++ [32] ++ mt ++ [10]) = t ++ [116, 111, 116, 97, 108, 32] ++ mt ++ [10] by simp [totW], ← h3, ← h2, ← h1]
          have e1h := Lib.hid e1
          have s1 : ¬ 9223372036854775807 < t.length + 6 := by omega
          have s2 : ¬ 9223372036854775807 < t.length + 6 + mt.length := by omega
          have s3 : ¬ 9223372036854775807 < t.length + 6 + mt.length + 1 := by omega
          clear e1 NS NL HS HL HB
          go_wp2_with fail
          refine (MT.out _).mono ?_
          rintro e w3 ⟨rfl, b3⟩
          have D3 := Lib.hid (bT DD.out b3)
          go_wp2
          go_ret
          exact ⟨by rw [HE.out, ← e1h.out]; rfl, D3.out⟩
end Go.Proofs.YtanoklpffenljaaGreatDoor
