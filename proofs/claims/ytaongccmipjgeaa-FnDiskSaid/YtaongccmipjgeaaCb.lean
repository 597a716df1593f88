/-
  A DISK CUT: both sides. The model's sync and crash.
-/
import Derived.Test.YtaongccmipjgeaaCa
namespace Go.Proofs.Ytaongccmipjgeaa
open Go.RowKit
set_option linter.unusedVariables false

/-- A parameter in its box, the result in its own. -/
structure Two (w : World) (s : ByteArray) (v : Value) (W : World) : Prop where
  box : DAt 25 W w.heap.size s v
  res : DAt 25 W (w.heap.size + 1) ⟨#[]⟩ (.slice none 0 0)
  bel : Below w.heap.size w W
theorem Two.start (w : World) (s : ByteArray) (v : Value) : Two w s v ((w.alloc (.cells #[.string s, v] 25)).alloc (.cells #[.string ⟨#[]⟩, .slice none 0 0] 25)) := by
  refine ⟨(DAt.new 25 w s v).below (bA0 _ _), ?_, bA (bA0 _ _) _⟩
  have := DAt.new 25 (w.alloc (.cells #[.string s, v] 25)) ⟨#[]⟩ (.slice none 0 0)
  rwa [show (w.alloc (.cells #[.string s, v] 25)).heap.size = w.heap.size + 1 by simp] at this
theorem Two.below {w : World} {s : ByteArray} {v : Value} {W W' : World} (h : Two w s v W) (hb : Below W.heap.size W W') : Two w s v W' := ⟨h.box.below hb, h.res.below hb, bT h.bel hb⟩
theorem Two.drew {w : World} {s : ByteArray} {v : Value} {W : World} (h : Two w s v W) : Two w s v W.drew := ⟨h.box, h.res, h.bel.drew⟩
theorem Two.facts {w : World} {s : ByteArray} {v : Value} {W : World} (h : Two w s v W) : W.cell? ⟨w.heap.size, 0, none⟩ = some (.string s) ∧ W.cell? ⟨w.heap.size, 1, none⟩ = some v ∧ W.cell? ⟨w.heap.size + 1, 0, none⟩ = some (.string ⟨#[]⟩) ∧ W.cell? ⟨w.heap.size + 1, 1, none⟩ = some (.slice none 0 0) ∧ (∀ o, W.frozen? ⟨w.heap.size + 1, o, none⟩ = false) ∧ w.heap.size + 1 < W.heap.size :=
  ⟨h.box.cells.1, h.box.cells.2, h.res.cells.1, h.res.cells.2, h.res.frozen, h.res.lt⟩
theorem Two.end {w : World} {s : ByteArray} {v : Value} {W : World} (h : Two w s v W) (s' : ByteArray) (v' : Value) :
    ((W.setCell ⟨w.heap.size + 1, 0, none⟩ (.string s')).setCell ⟨w.heap.size + 1, 1, none⟩ v').cell? ⟨w.heap.size + 1, 0, none⟩ = some (.string s') ∧ ((W.setCell ⟨w.heap.size + 1, 0, none⟩ (.string s')).setCell ⟨w.heap.size + 1, 1, none⟩ v').cell? ⟨w.heap.size + 1, 1, none⟩ = some v' ∧
    (∀ B ss', OwnS W B v' ss' → w.heap.size + 2 ≤ B → CopPost s' ss' w (.returned (.agg #[.string s', v'])) ((W.setCell ⟨w.heap.size + 1, 0, none⟩ (.string s')).setCell ⟨w.heap.size + 1, 1, none⟩ v')) :=
  ⟨(h.res.set2 s' v').cells.1, (h.res.set2 s' v').cells.2, fun B ss' ho hB => ⟨v', rfl, ((ho.set (by omega) _ _).set (by omega) _ _).mono (by omega), (h.bel.setCell (by simp) _).setCell (by simp) _⟩⟩

/-! ### Cut -/
set_option maxHeartbeats 1000000 in
theorem scut_no (s : ByteArray) (sl : Option Addr) (cap : Nat) (ss : List ByteArray) (z : Int) (w : World) (hn : ss.length ≤ 1048577) (hz : Strs w sl ss) (h : dR s ss = false ∨ z < 0 ∨ ((dT s ss).size : Int) < z) :
    Calls Try.prog 26 #[DV s sl ss.length cap, .int .i64 z] w fun e w' => CopPost s ss w e w' := by
  have T : Hid (∀ w1, Below w.heap.size w w1 → Calls Try.prog 16 #[DV s sl ss.length cap] w1 fun e w' => e = .returned (.string (dT s ss)) ∧ Below w1.heap.size w1 w') := fun w1 hb => sdt_any s sl cap ss w1 (hz.below hb)
  have R : Hid (∀ w1, Below w.heap.size w w1 → Calls Try.prog 11 #[DV s sl ss.length cap] w1 fun e w' => e = .returned (.bool (dR s ss)) ∧ Below w1.heap.size w1 w') := fun w1 hb => sdr_any s sl cap ss w1 (hz.below hb)
  have C : Hid (∀ w1, Below w.heap.size w w1 → Calls Try.prog 42 #[DV s sl ss.length cap] w1 fun e w' => CopPost s ss w1 e w') := fun w1 hb => scopy_any s sl cap ss w1 hn (hz.below hb)
  have T0 := Two.start w s (.slice sl ss.length cap)
  clear hz hn
  generalize ss.length = n at *
  generalize dT s ss = F at *
  have hF : ∃ b, dR s ss = b := ⟨_, rfl⟩
  obtain ⟨b, hb⟩ := hF
  rw [hb] at h R
  clear hb
  have h' : b = false ∨ (b = true ∧ z < 0) ∨ (b = true ∧ decide (z < 0) = false ∧ (F.size : Int) < z) := by
    cases b
    · exact .inl rfl
    · right
      by_cases hz : z < 0
      · exact .inl ⟨rfl, hz⟩
      · exact .inr ⟨rfl, by simp; omega, by rcases h with h | h | h <;> first | cases h | omega⟩
  clear h
  rcases h' with rfl | ⟨rfl, h1⟩ | ⟨rfl, h1, h2⟩
  all_goals
    go_enter Try.func26, Try.ntmps26
    go_wp2_with fail
    refine (T.out _ T0.bel).mono ?_
    rintro e w1 ⟨rfl, b1⟩
    have T1 := Lib.hid (T0.below b1)
    clear b1 T0
    obtain ⟨c0, c1, c2, c3, cf, cl⟩ := T1.out.facts
    go_wp2_with fail
    refine (R.out _ T1.out.bel).mono ?_
    rintro e w2 ⟨rfl, b2⟩
    have T2 := Lib.hid (T1.out.below b2)
    clear b2 T1 c0 c1 c2 c3 cf cl
    obtain ⟨c0, c1, c2, c3, cf, cl⟩ := T2.out.facts
    go_wp2_with fail
    refine (C.out _ T2.out.bel).mono ?_
    rintro e w3 ⟨v3, rfl, o3, b3⟩
    obtain ⟨sl3, c3', rfl, -⟩ := o3.strs
    have O3 := Lib.hid o3
    have T3 := Lib.hid (T2.out.below b3)
    clear b3 o3 c0 c1 c2 c3 cf
    obtain ⟨c0, c1, c2, c3, cf, cl3⟩ := T3.out.facts
    obtain ⟨q0, q1, qf⟩ := T3.out.end s (.slice sl3 ss.length c3')
    have QF := Lib.hid qf
    clear qf T2
    generalize ss.length = n3 at *
    go_wp2
    exact bodyPost_ret (v := .agg #[.string s, .slice sl3 n3 c3']) (by simp [results, Try.results26, go_sem, q0, q1]) rfl (QF.out _ _ O3.out (by omega))

set_option maxHeartbeats 1000000 in
theorem scut_yes (s : ByteArray) (sl : Option Addr) (cap : Nat) (ss : List ByteArray) (k : Nat) (w : World) (hz : Strs w sl ss) (hr : dR s ss = true) (hk : k ≤ (dT s ss).size) (hT : (dT s ss).size ≤ 20000) :
    Calls Try.prog 26 #[DV s sl ss.length cap, .int .i64 k] w fun e w' => CopPost ((dT s ss).extract 0 k) [] w e w' := by
  have T : Hid (∀ w1, Below w.heap.size w w1 → Calls Try.prog 16 #[DV s sl ss.length cap] w1 fun e w' => e = .returned (.string (dT s ss)) ∧ Below w1.heap.size w1 w') := fun w1 hb => sdt_any s sl cap ss w1 (hz.below hb)
  have R : Hid (∀ w1, Below w.heap.size w w1 → Calls Try.prog 11 #[DV s sl ss.length cap] w1 fun e w' => e = .returned (.bool true) ∧ Below w1.heap.size w1 w') := fun w1 hb => by
    have := sdr_any s sl cap ss w1 (hz.below hb); rwa [hr] at this
  have T0 := Two.start w s (.slice sl ss.length cap)
  clear hz hr
  generalize ss.length = n at *
  generalize dT s ss = F at *
  have k0 : decide ((k : Int) < 0) = false := by simp
  have k1 : ¬ (F.size : Int) < (k : Int) := by omega
  have k2 : (k : Int) ≤ (F.size : Int) := by omega
  have k3 : (0 : Int) ≤ (k : Int) := by omega
  go_enter Try.func26, Try.ntmps26
  go_wp2_with fail
  refine (T.out _ T0.bel).mono ?_
  rintro e w1 ⟨rfl, b1⟩
  have T1 := Lib.hid (T0.below b1)
  clear b1 T0
  obtain ⟨c0, c1, c2, c3, cf, cl⟩ := T1.out.facts
  go_wp2_with fail
  refine (R.out _ T1.out.bel).mono ?_
  rintro e w2 ⟨rfl, b2⟩
  have T2 := Lib.hid (T1.out.below b2)
  clear b2 T1 c0 c1 c2 c3 cf cl
  obtain ⟨c0, c1, c2, c3, cf, cl⟩ := T2.out.facts
  obtain ⟨q0, q1, qf⟩ := T2.out.end (F.extract 0 k) (.slice none 0 0)
  have QF := Lib.hid qf
  clear qf
  go_wp2
  exact bodyPost_ret (v := .agg #[.string (F.extract 0 k), .slice none 0 0]) (by simp [results, Try.results26, go_sem, q0, q1]) rfl (QF.out (w.heap.size + 2) _ (OwnS.nil _ _) (Nat.le_refl _))

set_option maxHeartbeats 1000000 in
theorem icut_no (s : ByteArray) (sl : Option Addr) (cap : Nat) (ss : List ByteArray) (z : Int) (w : World) (hS : s.size + tot ss ≤ 4000000) (hn : ss.length ≤ 1048576) (hz : Strs w sl ss) (h : dR s ss = false ∨ z < 0 ∨ ((dT s ss).size : Int) < z) :
    Calls Try.prog 27 #[DV s sl ss.length cap, .int .i64 z] w fun e w' => CopPost s ss w e w' := by
  have T : Hid (∀ w1, Below w.heap.size w w1 → Calls Try.prog 12 #[DV s sl ss.length cap] w1 fun e w' => e = .returned (.string (dT s ss)) ∧ Below w1.heap.size w1 w') := fun w1 hb => idt_any s sl cap ss w1 hS (hz.below hb)
  have R : Hid (∀ w1, Below w.heap.size w w1 → Calls Try.prog 14 #[DV s sl ss.length cap] w1 fun e w' => e = .returned (.bool (dR s ss)) ∧ Below w1.heap.size w1 w') := fun w1 hb => idr_any s sl cap ss w1 hS (hz.below hb)
  have C : Hid (∀ w1, Below w.heap.size w w1 → Calls Try.prog 34 #[DV s sl ss.length cap] w1 fun e w' => CopPost s ss w1 e w') := fun w1 hb => icopy_any s sl cap ss w1 hn (hz.below hb)
  have T0 := Two.start w s (.slice sl ss.length cap)
  clear hz hn
  generalize ss.length = n at *
  generalize dT s ss = F at *
  have hF : ∃ b, dR s ss = b := ⟨_, rfl⟩
  obtain ⟨b, hb⟩ := hF
  rw [hb] at h R
  clear hb
  have h' : b = false ∨ (b = true ∧ z < 0) ∨ (b = true ∧ decide (z < 0) = false ∧ (F.size : Int) < z) := by
    cases b
    · exact .inl rfl
    · right
      by_cases hz : z < 0
      · exact .inl ⟨rfl, hz⟩
      · exact .inr ⟨rfl, by simp; omega, by rcases h with h | h | h <;> first | cases h | omega⟩
  clear h
  rcases h' with rfl | ⟨rfl, h1⟩ | ⟨rfl, h1, h2⟩
  all_goals
    go_enter Try.func27, Try.ntmps27
    go_wp2_with fail
    refine (T.out _ T0.bel).mono ?_
    rintro e w1 ⟨rfl, b1⟩
    have T1 := Lib.hid (T0.below b1)
    clear b1 T0
    obtain ⟨c0, c1, c2, c3, cf, cl⟩ := T1.out.facts
    go_wp2_with fail
    refine (R.out _ T1.out.bel).mono ?_
    rintro e w2 ⟨rfl, b2⟩
    have T2 := Lib.hid (T1.out.below b2)
    clear b2 T1 c0 c1 c2 c3 cf cl
    obtain ⟨c0, c1, c2, c3, cf, cl⟩ := T2.out.facts
    go_wp2_with fail
    refine (C.out _ T2.out.bel).mono ?_
    rintro e w3 ⟨v3, rfl, o3, b3⟩
    obtain ⟨sl3, c3', rfl, -⟩ := o3.strs
    have O3 := Lib.hid o3
    have T3 := Lib.hid (T2.out.below b3)
    clear b3 o3 c0 c1 c2 c3 cf
    obtain ⟨c0, c1, c2, c3, cf, cl3⟩ := T3.out.facts
    obtain ⟨q0, q1, qf⟩ := T3.out.end s (.slice sl3 ss.length c3')
    have QF := Lib.hid qf
    clear qf T2
    generalize ss.length = n3 at *
    go_wp2
    exact bodyPost_ret (v := .agg #[.string s, .slice sl3 n3 c3']) (by simp [results, Try.results27, go_sem, q0, q1]) rfl (QF.out _ _ O3.out (by omega))

set_option maxHeartbeats 1000000 in
theorem icut_yes (s : ByteArray) (sl : Option Addr) (cap : Nat) (ss : List ByteArray) (k : Nat) (w : World) (hS : s.size + tot ss ≤ 4000000) (hz : Strs w sl ss) (hr : dR s ss = true) (hk : k ≤ (dT s ss).size) (hT : (dT s ss).size ≤ 20000) :
    Calls Try.prog 27 #[DV s sl ss.length cap, .int .i64 k] w fun e w' => CopPost ((dT s ss).extract 0 k) [] w e w' := by
  have T : Hid (∀ w1, Below w.heap.size w w1 → Calls Try.prog 12 #[DV s sl ss.length cap] w1 fun e w' => e = .returned (.string (dT s ss)) ∧ Below w1.heap.size w1 w') := fun w1 hb => idt_any s sl cap ss w1 hS (hz.below hb)
  have R : Hid (∀ w1, Below w.heap.size w w1 → Calls Try.prog 14 #[DV s sl ss.length cap] w1 fun e w' => e = .returned (.bool true) ∧ Below w1.heap.size w1 w') := fun w1 hb => by
    have := idr_any s sl cap ss w1 hS (hz.below hb); rwa [hr] at this
  have T0 := Two.start w s (.slice sl ss.length cap)
  clear hz hr
  generalize ss.length = n at *
  generalize dT s ss = F at *
  have k0 : decide ((k : Int) < 0) = false := by simp
  have k1 : ¬ (F.size : Int) < (k : Int) := by omega
  have k2 : (k : Int) ≤ (F.size : Int) := by omega
  have k3 : (0 : Int) ≤ (k : Int) := by omega
  go_enter Try.func27, Try.ntmps27
  go_wp2_with fail
  refine (T.out _ T0.bel).mono ?_
  rintro e w1 ⟨rfl, b1⟩
  have T1 := Lib.hid (T0.below b1)
  clear b1 T0
  obtain ⟨c0, c1, c2, c3, cf, cl⟩ := T1.out.facts
  go_wp2_with fail
  refine (R.out _ T1.out.bel).mono ?_
  rintro e w2 ⟨rfl, b2⟩
  have T2 := Lib.hid (T1.out.below b2)
  clear b2 T1 c0 c1 c2 c3 cf cl
  obtain ⟨c0, c1, c2, c3, cf, cl⟩ := T2.out.facts
  obtain ⟨q0, q1, qf⟩ := T2.out.end (F.extract 0 k) (.slice none 0 0)
  have QF := Lib.hid qf
  clear qf
  go_wp2
  exact bodyPost_ret (v := .agg #[.string (F.extract 0 k), .slice none 0 0]) (by simp [results, Try.results27, go_sem, q0, q1]) rfl (QF.out (w.heap.size + 2) _ (OwnS.nil _ _) (Nat.le_refl _))

end Go.Proofs.Ytaongccmipjgeaa
