/-
  THE LAW FnDisk: its walk.
-/
import Derived.Test.YtaongccmipjgeaaDf
import Derived.Test.YtaongccmipjgeaaCc
import Derived.Test.YtaongccmipjgeaaCd
namespace Go.Proofs.Ytaongccmipjgeaa
open Go.RowKit
set_option linter.unusedVariables false

theorem app_nil (s : ByteArray) : s ++ (⟨#[]⟩ : ByteArray) = s := by
  apply Go.WideShapes.bytes_inj
  simp
theorem dR_nil {s : ByteArray} (h : s.size ≤ 20000) : dR s [] = true := by simp [dR, tot, h]
theorem dT_nil {s : ByteArray} (h : s.size ≤ 20000) : dT s [] = s := by
  unfold dT
  rw [if_pos (dR_nil h)]
  exact app_nil s
theorem flT_nil (k : Nat) : (flT []).extract 0 k = ⟨#[]⟩ := by
  apply Go.WideShapes.bytes_inj
  rw [Lib.extract_data]
  simp [flT, fl]
theorem dT_empty {s : ByteArray} {ss : List ByteArray} (h : dR s ss = false) : (dT s ss).toList.isEmpty = true := by
  unfold dT
  rw [h]; simp [Go.ByteArray.toList_eq]
theorem part_of (s F : ByteArray) (k : Nat) (hk : k ≤ F.size) : (s ++ F).extract 0 (s ++ F.extract 0 k).size = s ++ F.extract 0 k := by
  apply Go.WideShapes.bytes_inj
  rw [Lib.extract_data]
  have e1 : (s ++ F).data.toList = s.data.toList ++ F.data.toList := by simp
  have e2 : (s ++ F.extract 0 k).data.toList = s.data.toList ++ (F.extract 0 k).data.toList := by simp
  have e3 : (F.extract 0 k).data.toList = F.data.toList.take k := by rw [Lib.extract_data]; simp
  have e4 : (s ++ F.extract 0 k).size = s.data.toList.length + k := by rw [ByteArray.size_append]; simp; omega
  rw [e1, e2, e3, e4, List.drop_zero, Nat.sub_zero, List.take_append, List.take_of_length_le (by omega)]
  simp

set_option maxRecDepth 100000 in
set_option maxHeartbeats 2000000 in
theorem law3 (sl : Option Addr) (len cap : Nat) (w : World) (hl : len ≤ 1048576) (hr : RowIn w sl len) :
    Calls Try.prog 3 #[.slice sl len cap] w fun e w' => e = .returned (.bool true) ∧ Below w.heap.size w w' := by
  have hl' : ¬ (1048576 : Int) < (len : Int) := by omega
  have HR := Lib.hid hr
  clear hr
  go_enter Try.func3, Try.ntmps3
  go_wp2_with fail
  refine (drawC_any sl len cap _ HR.out).mono ?_
  rintro e w1 ⟨s, v, ss, z, rfl, o1, sm, b1⟩
  obtain ⟨a1, c1, rfl, -⟩ := o1.strs
  have hS : s.size + tot ss ≤ 4000000 := by have := sm.1; have := sm.2.2; omega
  have hn : ss.length ≤ 120 := sm.2.1
  have W1 := Lib.hid (o1.below (bA0 _ (.cells #[.string s, .slice a1 ss.length c1] 25)))
  have D1 := Lib.hid (DAt.new 25 w1 s (.slice a1 ss.length c1))
  have B1 := Lib.hid (bA b1 (.cells #[.string s, .slice a1 ss.length c1] 25))
  have SR : Hid (∀ W B, OwnS W B (.slice a1 ss.length c1) ss → Calls Try.prog 11 #[DV s a1 ss.length c1] W fun e w' => e = .returned (.bool (dR s ss)) ∧ Below W.heap.size W w') := fun W B h => sdr_any s a1 c1 ss W h.str
  have IT : Hid (∀ W B, OwnS W B (.slice a1 ss.length c1) ss → Calls Try.prog 12 #[DV s a1 ss.length c1] W fun e w' => e = .returned (.string (dT s ss)) ∧ Below W.heap.size W w') := fun W B h => idt_any s a1 c1 ss W hS h.str
  have ST : Hid (∀ W B, OwnS W B (.slice a1 ss.length c1) ss → Calls Try.prog 16 #[DV s a1 ss.length c1] W fun e w' => e = .returned (.string (dT s ss)) ∧ Below W.heap.size W w') := fun W B h => sdt_any s a1 c1 ss W h.str
  cases hdr : dR s ss
  · have hE := dT_empty hdr
    rw [hdr] at SR
    clear o1 b1 sm hS hn hdr ST
    generalize ss.length = n at *
    generalize dT s ss = T at *
    go_wp2_with fail
    refine (SR.out _ _ W1.out).mono ?_
    rintro e w2 ⟨rfl, b2⟩
    have W2 := Lib.hid (W1.out.below b2)
    have D2 := Lib.hid (D1.out.below b2)
    have B2 := Lib.hid (bT B1.out b2)
    clear b2 W1 D1 B1 SR
    obtain ⟨d0, d1⟩ := D2.out.cells
    go_wp2_with fail
    refine (IT.out _ _ W2.out).mono ?_
    rintro e w3 ⟨rfl, b3⟩
    have B3 := Lib.hid (bT B2.out b3)
    clear b3
    go_wp2
    go_ret
    exact ⟨rfl, B3.out⟩
  · have hp := (dR_parts hdr).2.2
    have hk := kp_le z (tot ss)
    have eT : dT s ss = s ++ flT ss := by unfold dT; rw [if_pos hdr]
    have hF : (flT ss).size = tot ss := flT_size ss
    have hWz : (s ++ flT ss).size = s.size + tot ss := by rw [ByteArray.size_append, hF]
    have hRz : (s ++ (flT ss).extract 0 (kp z (tot ss))).size = s.size + kp z (tot ss) := by rw [ByteArray.size_append]; simp; omega
    have hex := part_of s (flT ss) (kp z (tot ss)) (by omega)
    have CR : Hid (∀ W B, OwnS W B (.slice a1 ss.length c1) ss → Calls Try.prog 13 #[DV s a1 ss.length c1, .int .i64 z] W fun e w' => CopPost (s ++ (flT ss).extract 0 (kp z (tot ss))) [] W e w') := fun W B h => icrash_yes s a1 c1 ss z W h.str hdr
    have SY : Hid (∀ W B, OwnS W B (.slice a1 ss.length c1) ss → Calls Try.prog 15 #[DV s a1 ss.length c1] W fun e w' => CopPost (s ++ flT ss) [] W e w') := fun W B h => by
      have := isync_any s a1 c1 ss W hS (by omega) h.str
      rw [hdr, eT] at this
      simpa using this
    have hN : ∀ X : ByteArray, X.size ≤ 20000 → Hid ((∀ W B a c, OwnS W B (.slice a 0 c) [] → Calls Try.prog 12 #[DV X a 0 c] W fun e w' => e = .returned (.string X) ∧ Below W.heap.size W w') ∧ (∀ W B a c, OwnS W B (.slice a 0 c) [] → Calls Try.prog 14 #[DV X a 0 c] W fun e w' => e = .returned (.bool true) ∧ Below W.heap.size W w') ∧ (∀ W B a c, OwnS W B (.slice a 0 c) [] → Calls Try.prog 13 #[DV X a 0 c, .int .i64 z] W fun e w' => CopPost X [] W e w')) := fun X hX => by
      refine ⟨fun W B a c h => ?_, fun W B a c h => ?_, fun W B a c h => ?_⟩
      · have := idt_any X a c [] W (by simp [tot]; omega) h.str
        rwa [dT_nil hX] at this
      · have := idr_any X a c [] W (by simp [tot]; omega) h.str
        rwa [dR_nil hX] at this
      · have := icrash_yes X a c [] z W h.str (dR_nil hX)
        rwa [flT_nil, app_nil] at this
    have NW := hN (s ++ flT ss) (by omega)
    have NX := hN (s ++ (flT ss).extract 0 (kp z (tot ss))) (by omega)
    rw [eT] at IT ST
    rw [hdr] at SR
    clear hN eT hF hdr sm hS o1 b1
    generalize (flT ss).extract 0 (kp z (tot ss)) = EX at *
    generalize flT ss = F at *
    generalize hWW : s ++ F = WW at *
    generalize hXX : s ++ EX = XX at *
    generalize kp z (tot ss) = k at *
    generalize tot ss = T at *
    generalize ss.length = n at *
    clear hWW hXX
    have hk2 : k ≤ T := hk
    have q1 : ¬ (WW.size : Int) < (XX.size : Int) := by omega
    have q2 : ¬ (XX.size : Int) < (s.size : Int) := by omega
    have q3 : (XX.size : Int) ≤ (WW.size : Int) := by omega
    have q4 : (XX.toList != XX.toList) = false := by simp
    have q5 : (WW.toList == WW.toList) = true := by simp
    clear hk hRz hWz hp hk2
    go_wp2_with fail
    refine (SR.out _ _ W1.out).mono ?_
    rintro e w2 ⟨rfl, b2⟩
    have W2 := Lib.hid (W1.out.below b2)
    have D2 := Lib.hid (D1.out.below b2)
    have B2 := Lib.hid (bT B1.out b2)
    clear b2 W1 D1 B1 SR
    obtain ⟨d0, d1⟩ := D2.out.cells
    go_wp2_with fail
    refine (IT.out _ _ W2.out).mono ?_
    rintro e w3 ⟨rfl, b3⟩
    have W3 := Lib.hid (W2.out.below b3)
    have D3 := Lib.hid (D2.out.below b3)
    have B3 := Lib.hid (bT B2.out b3)
    clear b3 W2 D2 B2 IT d0 d1
    obtain ⟨d0, d1⟩ := D3.out.cells
    go_wp2_with fail
    refine (CR.out _ _ W3.out).mono ?_
    rintro e w4 ⟨v4, rfl, o4, b4⟩
    obtain ⟨a4, c4, rfl, -⟩ := o4.strs
    simp only [List.length_nil] at o4 ⊢
    have W4 := Lib.hid ((W3.out.below b4).below (bA0 _ (.cells #[.string XX, .slice a4 0 c4] 25)))
    have D4 := Lib.hid ((D3.out.below b4).below (bA0 _ (.cells #[.string XX, .slice a4 0 c4] 25)))
    have B4 := Lib.hid (bA (bT B3.out b4) (.cells #[.string XX, .slice a4 0 c4] 25))
    have X4 := Lib.hid (DAt.new 25 w4 XX (.slice a4 0 c4))
    have O4 := Lib.hid (o4.below (bA0 _ (.cells #[.string XX, .slice a4 0 c4] 25)))
    clear o4 b4 W3 D3 B3 CR d0 d1
    go_wp2_with fail
    refine (NX.out.1 _ _ _ _ O4.out).mono ?_
    rintro e w5 ⟨rfl, b5⟩
    have W5 := Lib.hid (W4.out.below b5)
    have D5 := Lib.hid (D4.out.below b5)
    have B5 := Lib.hid (bT B4.out b5)
    have X5 := Lib.hid (X4.out.below b5)
    have O5 := Lib.hid (O4.out.below b5)
    clear b5 W4 D4 B4 X4 O4
    obtain ⟨x0, x1⟩ := X5.out.cells
    go_wp2_with fail
    refine (NX.out.2.1 _ _ _ _ O5.out).mono ?_
    rintro e w6 ⟨rfl, b6⟩
    have W6 := Lib.hid (W5.out.below b6)
    have D6 := Lib.hid (D5.out.below b6)
    have B6 := Lib.hid (bT B5.out b6)
    have X6 := Lib.hid (X5.out.below b6)
    clear b6 W5 D5 B5 X5 O5 x0 x1 NX
    obtain ⟨x0, x1⟩ := X6.out.cells
    obtain ⟨d0, d1⟩ := D6.out.cells
    go_wp2_with fail
    refine (SY.out _ _ W6.out).mono ?_
    rintro e w7 ⟨v7, rfl, o7, b7⟩
    obtain ⟨a7, c7, rfl, -⟩ := o7.strs
    simp only [List.length_nil] at o7 ⊢
    have W7 := Lib.hid (W6.out.below b7)
    have D7 := Lib.hid (D6.out.below b7)
    have B7 := Lib.hid (bT B6.out b7)
    have O7 := Lib.hid o7
    clear o7 b7 W6 D6 B6 X6 x0 x1 d0 d1 SY
    go_wp2_with fail
    refine (NW.out.2.2 _ _ _ _ O7.out).mono ?_
    rintro e w8 ⟨v8, rfl, o8, b8⟩
    obtain ⟨a8, c8, rfl, -⟩ := o8.strs
    simp only [List.length_nil] at o8 ⊢
    have W8 := Lib.hid ((W7.out.below b8).below (bA0 _ (.cells #[.string WW, .slice a8 0 c8] 25)))
    have D8 := Lib.hid ((D7.out.below b8).below (bA0 _ (.cells #[.string WW, .slice a8 0 c8] 25)))
    have B8 := Lib.hid (bA (bT B7.out b8) (.cells #[.string WW, .slice a8 0 c8] 25))
    have O8 := Lib.hid (o8.below (bA0 _ (.cells #[.string WW, .slice a8 0 c8] 25)))
    clear o8 b8 W7 D7 B7 O7
    go_wp2_with fail
    refine (NW.out.1 _ _ _ _ O8.out).mono ?_
    rintro e w9 ⟨rfl, b9⟩
    have W9 := Lib.hid (W8.out.below b9)
    have D9 := Lib.hid (D8.out.below b9)
    have B9 := Lib.hid (bT B8.out b9)
    clear b9 W8 D8 B8 O8 NW
    obtain ⟨d0, d1⟩ := D9.out.cells
    go_wp2_with fail
    refine (ST.out _ _ W9.out).mono ?_
    rintro e w10 ⟨rfl, b10⟩
    have B10 := Lib.hid (bT B9.out b10)
    clear b10 W9 D9 B9 ST d0 d1
    go_wp2
    go_ret
    exact ⟨rfl, B10.out⟩

theorem law3_long (sl : Option Addr) (len cap : Nat) (w : World) (hl : 1048576 < len) :
    Calls Try.prog 3 #[.slice sl len cap] w fun e w' => e = .returned (.bool true) ∧ Below w.heap.size w w' := by
  have hl' : (1048576 : Int) < (len : Int) := by omega
  go_enter Try.func3, Try.ntmps3
  go_wp2
  go_ret
  exact ⟨rfl, Below.refl _ _⟩
theorem law3_all (sl : Option Addr) (len cap : Nat) (w : World) (hr : RowIn w sl len) :
    Calls Try.prog 3 #[.slice sl len cap] w fun e w' => e = .returned (.bool true) ∧ Below w.heap.size w w' := by
  by_cases h : len ≤ 1048576
  · exact law3 sl len cap w h hr
  · exact law3_long sl len cap w (by omega)

end Go.Proofs.Ytaongccmipjgeaa
