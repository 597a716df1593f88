/-
  A DISK THAT CRASHES: both sides.
-/
import Derived.Test.YtaongccmipjgeaaCb
import Derived.BigRegion
namespace Go.Proofs.Ytaongccmipjgeaa
open Go.RowKit
set_option linter.unusedVariables false

theorem BAt.part {w : World} {g cap : Nat} {l : List UInt8} (h : BAt w g (Lib.byteCells l)) (k : Nat) (hk : k ≤ l.length) : Sem.run Try.prog (convert 22 9 (.slice (some ⟨g, 0, none⟩) k cap)) w = .ok (.string ⟨(l.take k).toArray⟩) w := by
  have e : (l.take k).length = k := by simp; omega
  have := run_convert_bytes_back (P := Try.prog) w 22 9 5 ⟨g, 0, none⟩ cap (l.take k) Try.underlying22 Try.underlying5 Try.underlying9 (fun j hj => ?_)
  · rwa [e] at this
  · have ha : (⟨g, 0, none⟩ : Addr).add j = ⟨g, j, none⟩ := by
      unfold Addr.add
      by_cases h : j = 0 <;> simp [h]
    have hj' : j < l.length := by rw [e] at hj; omega
    unfold BAt at h
    rw [ha]
    simp only [World.cell?, h]
    simp [Lib.byteCells, hj']
theorem flT_part (ss : List ByteArray) (k : Nat) : (⟨((fl ss).take k).toArray⟩ : ByteArray) = (flT ss).extract 0 k := by
  apply Go.WideShapes.bytes_inj
  rw [Lib.extract_data]
  simp [flT]

theorem CopPost.drew {s : ByteArray} {ss : List ByteArray} {w w' : World} {e : Ending} (h : CopPost s ss w e w') : CopPost s ss w e w'.drew := by
  obtain ⟨v, he, o, b⟩ := h
  exact ⟨v, he, o, b.drew⟩
/-- How many bytes are kept. -/
def kp (z : Int) (T : Nat) : Nat := (max 0 (min z (T : Int))).toNat
theorem kp_le (z : Int) (T : Nat) : kp z T ≤ T := by unfold kp; omega

theorem min_any (a b : Int) (w : World) : Calls Try.prog 47 #[.int .i64 a, .int .i64 b] w fun e w' => e = .returned (.int .i64 (min a b)) ∧ w' = w := by
  by_cases h : a < b
  · rw [show min a b = a by omega]
    go_enter Try.func47, Try.ntmps47
    go_wp2
    go_ret
    exact ⟨rfl, rfl⟩
  · rw [show min a b = b by omega]
    go_enter Try.func47, Try.ntmps47
    go_wp2
    go_ret
    exact ⟨rfl, rfl⟩
theorem max_any (a b : Int) (w : World) : Calls Try.prog 46 #[.int .i64 a, .int .i64 b] w fun e w' => e = .returned (.int .i64 (max a b)) ∧ w' = w := by
  by_cases h : b < a
  · rw [show max a b = a by omega]
    go_enter Try.func46, Try.ntmps46
    go_wp2
    go_ret
    exact ⟨rfl, rfl⟩
  · rw [show max a b = b by omega]
    go_enter Try.func46, Try.ntmps46
    go_wp2
    go_ret
    exact ⟨rfl, rfl⟩

set_option maxHeartbeats 1000000 in
theorem scrash_no (s : ByteArray) (sl : Option Addr) (cap : Nat) (ss : List ByteArray) (z : Int) (w : World) (hn : ss.length ≤ 1048577) (hz : Strs w sl ss) (h : dR s ss = false) :
    Calls Try.prog 25 #[DV s sl ss.length cap, .int .i64 z] w fun e w' => CopPost s ss w e w' := by
  have R : Hid (∀ w1, Below w.heap.size w w1 → Calls Try.prog 11 #[DV s sl ss.length cap] w1 fun e w' => e = .returned (.bool false) ∧ Below w1.heap.size w1 w') := fun w1 hb => by
    have := sdr_any s sl cap ss w1 (hz.below hb); rwa [h] at this
  have C : Hid (∀ w1, Below w.heap.size w w1 → Calls Try.prog 42 #[DV s sl ss.length cap] w1 fun e w' => CopPost s ss w1 e w') := fun w1 hb => scopy_any s sl cap ss w1 hn (hz.below hb)
  have T0 := Two.start w s (.slice sl ss.length cap)
  clear hz hn h
  generalize ss.length = n at *
  go_enter Try.func25, Try.ntmps25
  go_wp2_with fail
  refine (R.out _ T0.bel).mono ?_
  rintro e w2 ⟨rfl, b2⟩
  have T2 := Lib.hid (T0.below b2)
  clear b2 T0
  obtain ⟨c0, c1, c2, c3, cf, cl⟩ := T2.out.facts
  go_wp2_with fail
  refine (C.out _ T2.out.bel).mono ?_
  rintro e w3 ⟨v3, rfl, o3, b3⟩
  obtain ⟨sl3, c3', rfl, -⟩ := o3.strs
  have O3 := Lib.hid o3
  have T3 := Lib.hid (T2.out.below b3)
  clear b3 o3 c0 c1 c2 c3 cf
  obtain ⟨c0, c1, c2, c3, cf, cl3⟩ := T3.out.facts
  obtain ⟨q0, q1, qf⟩ := T3.out.end s (.slice sl3 ss.length c3')
  have QF := Lib.hid qf
  clear qf T2
  generalize ss.length = n3 at *
  go_wp2
  exact bodyPost_ret (v := .agg #[.string s, .slice sl3 n3 c3']) (by simp [results, Try.results25, go_sem, q0, q1]) rfl (QF.out _ _ O3.out (by omega))

set_option maxHeartbeats 1000000 in
theorem scrash_yes (s : ByteArray) (sl : Option Addr) (cap : Nat) (ss : List ByteArray) (z : Int) (w : World) (hz : Strs w sl ss) (h : dR s ss = true) :
    Calls Try.prog 25 #[DV s sl ss.length cap, .int .i64 z] w fun e w' => CopPost (s ++ (flT ss).extract 0 (kp z (tot ss))) [] w e w' := by
  have hp := dR_parts h
  have R : Hid (∀ w1, Below w.heap.size w w1 → Calls Try.prog 11 #[DV s sl ss.length cap] w1 fun e w' => e = .returned (.bool true) ∧ Below w1.heap.size w1 w') := fun w1 hb => by
    have := sdr_any s sl cap ss w1 (hz.below hb); rwa [h] at this
  have L : Hid (∀ w1, Below w.heap.size w w1 → Calls Try.prog 38 #[DV s sl ss.length cap] w1 fun e w' => e = .returned (.string (flT ss)) ∧ Below w1.heap.size w1 w') := fun w1 hb =>
    sloose_any s sl cap ss w1 (by omega) (by omega) (hz.below hb)
  have hk := kp_le z (tot ss)
  have hF := flT_size ss
  have HK : Hid (max 0 (min z ((flT ss).size : Int)) = (kp z (tot ss) : Int)) := by show _ = _; rw [hF]; unfold kp; omega
  have hkF : kp z (tot ss) ≤ (flT ss).size := by omega
  have hcat : ¬ s.size + ((flT ss).extract 0 (kp z (tot ss))).size > 9223372036854775807 := by simp; omega
  have hF2 : (flT ss).size ≤ 20000 := by omega
  have T0 := Two.start w s (.slice sl ss.length cap)
  clear hz h hp hF hk
  generalize ss.length = n at *
  generalize kp z (tot ss) = k at *
  generalize flT ss = F at *
  have k1 : (k : Int) ≤ (F.size : Int) := by omega
  have k0 : (0 : Int) ≤ (k : Int) := by omega
  go_enter Try.func25, Try.ntmps25
  go_wp2_with fail
  refine (R.out _ T0.bel).mono ?_
  rintro e w2 ⟨rfl, b2⟩
  have T2 := Lib.hid (T0.below b2)
  clear b2 T0
  obtain ⟨c0, c1, c2, c3, cf, cl⟩ := T2.out.facts
  go_wp2_with fail
  refine (L.out _ T2.out.bel).mono ?_
  rintro e w3 ⟨rfl, b3⟩
  have T3 := Lib.hid (T2.out.below b3)
  clear b3 c0 c1 c2 c3 cf cl T2
  obtain ⟨c0, c1, c2, c3, cf, cl⟩ := T3.out.facts
  go_wp2_with fail
  refine (min_any _ _ _).mono ?_
  rintro e w4 ⟨rfl, rfl⟩
  go_wp2_with fail
  refine (max_any _ _ _).mono ?_
  rintro e w5 ⟨rfl, rfl⟩
  rw [HK.out]
  obtain ⟨q0, q1, qf⟩ := T3.out.end (s ++ F.extract 0 k) (.slice none 0 0)
  have QF := Lib.hid qf
  clear qf HK
  go_wp2_with fail
  go_region
  go_wp2
  exact bodyPost_ret (v := .agg #[.string (s ++ F.extract 0 k), .slice none 0 0]) (by simp [results, Try.results25, go_sem, q0, q1]) rfl (QF.out (w.heap.size + 2) _ (OwnS.nil _ _) (Nat.le_refl _)).drew

set_option maxHeartbeats 1000000 in
theorem icrash_no (s : ByteArray) (sl : Option Addr) (cap : Nat) (ss : List ByteArray) (z : Int) (w : World) (hS : s.size + tot ss ≤ 4000000) (hn : ss.length ≤ 1048576) (hz : Strs w sl ss) (h : dR s ss = false) :
    Calls Try.prog 13 #[DV s sl ss.length cap, .int .i64 z] w fun e w' => CopPost s ss w e w' := by
  have R : Hid (∀ w1, Below w.heap.size w w1 → Calls Try.prog 14 #[DV s sl ss.length cap] w1 fun e w' => e = .returned (.bool false) ∧ Below w1.heap.size w1 w') := fun w1 hb => by
    have := idr_any s sl cap ss w1 hS (hz.below hb); rwa [h] at this
  have C : Hid (∀ w1, Below w.heap.size w w1 → Calls Try.prog 34 #[DV s sl ss.length cap] w1 fun e w' => CopPost s ss w1 e w') := fun w1 hb => icopy_any s sl cap ss w1 hn (hz.below hb)
  have T0 := Two.start w s (.slice sl ss.length cap)
  clear hz hn h hS
  generalize ss.length = n at *
  go_enter Try.func13, Try.ntmps13
  go_wp2_with fail
  refine (R.out _ T0.bel).mono ?_
  rintro e w2 ⟨rfl, b2⟩
  have T2 := Lib.hid (T0.below b2)
  clear b2 T0
  obtain ⟨c0, c1, c2, c3, cf, cl⟩ := T2.out.facts
  go_wp2_with fail
  refine (C.out _ T2.out.bel).mono ?_
  rintro e w3 ⟨v3, rfl, o3, b3⟩
  obtain ⟨sl3, c3', rfl, -⟩ := o3.strs
  have O3 := Lib.hid o3
  have T3 := Lib.hid (T2.out.below b3)
  clear b3 o3 c0 c1 c2 c3 cf
  obtain ⟨c0, c1, c2, c3, cf, cl3⟩ := T3.out.facts
  obtain ⟨q0, q1, qf⟩ := T3.out.end s (.slice sl3 ss.length c3')
  have QF := Lib.hid qf
  clear qf T2
  generalize ss.length = n3 at *
  go_wp2
  exact bodyPost_ret (v := .agg #[.string s, .slice sl3 n3 c3']) (by simp [results, Try.results13, go_sem, q0, q1]) rfl (QF.out _ _ O3.out (by omega))

set_option maxHeartbeats 1000000 in
theorem icrash_yes (s : ByteArray) (sl : Option Addr) (cap : Nat) (ss : List ByteArray) (z : Int) (w : World) (hz : Strs w sl ss) (h : dR s ss = true) :
    Calls Try.prog 13 #[DV s sl ss.length cap, .int .i64 z] w fun e w' => CopPost (s ++ (flT ss).extract 0 (kp z (tot ss))) [] w e w' := by
  have hp := dR_parts h
  have R : Hid (∀ w1, Below w.heap.size w w1 → Calls Try.prog 14 #[DV s sl ss.length cap] w1 fun e w' => e = .returned (.bool true) ∧ Below w1.heap.size w1 w') := fun w1 hb => by
    have := idr_any s sl cap ss w1 (by omega) (hz.below hb); rwa [h] at this
  have L : Hid (∀ w1, Below w.heap.size w w1 → Calls Try.prog 33 #[DV s sl ss.length cap] w1 fun e w' => ∃ g, e = .returned (.slice (some ⟨g, 0, none⟩) (tot ss) (tot ss)) ∧ (∀ cp, Sem.run Try.prog (convert 22 9 (.slice (some ⟨g, 0, none⟩) (kp z (tot ss)) cp)) w' = .ok (.string ((flT ss).extract 0 (kp z (tot ss)))) w') ∧ Below w1.heap.size w1 w') := fun w1 hb => by
    refine (loose_any s sl cap ss w1 h (hz.below hb)).mono ?_
    rintro e w' ⟨g, rfl, -, hB, b⟩
    refine ⟨g, rfl, fun cp => ?_, b⟩
    have := hB.part (cap := cp) (kp z (tot ss)) (by rw [fl_len]; exact kp_le _ _)
    rwa [flT_part] at this
  have hk := kp_le z (tot ss)
  have hcat : ¬ s.size + ((flT ss).extract 0 (kp z (tot ss))).size > 9223372036854775807 := by simp [flT_size]; omega
  have hT2 : tot ss ≤ 20000 := by omega
  have HK : Hid ((z < 0 ∧ kp z (tot ss) = 0) ∨ (0 ≤ z ∧ (tot ss : Int) < z ∧ kp z (tot ss) = tot ss) ∨ (0 ≤ z ∧ z ≤ (tot ss : Int) ∧ (kp z (tot ss) : Int) = z)) := by
    unfold kp
    by_cases h0 : z < 0
    · exact .inl ⟨h0, by omega⟩
    · by_cases h1 : (tot ss : Int) < z
      · exact .inr (.inl ⟨by omega, h1, by omega⟩)
      · exact .inr (.inr ⟨by omega, by omega, by omega⟩)
  have T0 := Two.start w s (.slice sl ss.length cap)
  clear hz h hp
  generalize ss.length = n at *
  generalize (flT ss).extract 0 (kp z (tot ss)) = X at *
  generalize kp z (tot ss) = k at *
  generalize tot ss = T at *
  have k1 : (k : Int) ≤ (T : Int) := by omega
  have k0 : (0 : Int) ≤ (k : Int) := by omega
  go_enter Try.func13, Try.ntmps13
  go_wp2_with fail
  refine (R.out _ T0.bel).mono ?_
  rintro e w2 ⟨rfl, b2⟩
  have T2 := Lib.hid (T0.below b2)
  clear b2 T0
  obtain ⟨c0, c1, c2, c3, cf, cl⟩ := T2.out.facts
  go_wp2_with fail
  refine (L.out _ T2.out.bel).mono ?_
  rintro e w3 ⟨g, rfl, hcv, b3⟩
  have T3 := Lib.hid (T2.out.below b3)
  have hcv' := hcv k
  clear b3 c0 c1 c2 c3 cf cl T2 hcv
  obtain ⟨c0, c1, c2, c3, cf, cl⟩ := T3.out.facts
  obtain ⟨q0, q1, qf⟩ := T3.out.end (s ++ X) (.slice none 0 0)
  have QF := Lib.hid qf
  clear qf
  have HK2 := HK.out
  clear HK
  clear L
  rcases HK2 with ⟨h0, hk0⟩ | ⟨h0, h1, hk0⟩ | ⟨h0, h1, hk0⟩
  · subst hk0
    go_wp2
    exact bodyPost_ret (v := .agg #[.string (s ++ X), .slice none 0 0]) (by simp [results, Try.results13, go_sem, q0, q1]) rfl (QF.out (w.heap.size + 2) _ (OwnS.nil _ _) (Nat.le_refl _))
  · subst hk0
    have h2 : ¬ z < 0 := by omega
    go_wp2
    exact bodyPost_ret (v := .agg #[.string (s ++ X), .slice none 0 0]) (by simp [results, Try.results13, go_sem, q0, q1]) rfl (QF.out (w.heap.size + 2) _ (OwnS.nil _ _) (Nat.le_refl _))
  · subst hk0
    have h2 : ¬ (k : Int) < 0 := by omega
    go_wp2
    exact bodyPost_ret (v := .agg #[.string (s ++ X), .slice none 0 0]) (by simp [results, Try.results13, go_sem, q0, q1]) rfl (QF.out (w.heap.size + 2) _ (OwnS.nil _ _) (Nat.le_refl _))

end Go.Proofs.Ytaongccmipjgeaa
