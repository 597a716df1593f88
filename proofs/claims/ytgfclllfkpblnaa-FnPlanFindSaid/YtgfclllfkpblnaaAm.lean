/-
  WHEN A TABLE IS RIGHT, as the program asks it.
-/
import Derived.Test.YtgfclllfkpblnaaAl
namespace Go.Proofs.Ytgfclllfkpblnaa
open Go.RowKit Go.Maps
set_option linter.unusedVariables false

set_option maxRecDepth 100000 in
set_option maxHeartbeats 2000000 in
theorem itr_size (sl : Option Addr) (n cap : Nat) (sl2 : Option Addr) (m cap2 : Nat) (w : World) (h : ¬ (1 ≤ n ∧ n ≤ 12 ∧ m ≤ 40)) :
    Calls Try.prog 33 #[TV sl n cap sl2 m cap2] w fun e w' => e = .returned (.bool false) ∧ Below w.heap.size w w' := by
  by_cases h1 : (n : Int) < 1
  · clear h
    go_enter Try.func33, Try.ntmps33
    go_wp2
    go_ret
    exact ⟨rfl, bA0 _ _⟩
  · by_cases h2 : (12 : Int) < (n : Int)
    · clear h
      go_enter Try.func33, Try.ntmps33
      go_wp2
      go_ret
      exact ⟨rfl, bA0 _ _⟩
    · have h3 : (40 : Int) < (m : Int) := by omega
      clear h
      go_enter Try.func33, Try.ntmps33
      go_wp2
      go_ret
      exact ⟨rfl, bA0 _ _⟩
def AllSt (rs : List LSt) (k : Nat) : Prop := ∀ i (h : i < rs.length), i < k → StOK rs[i].2.1 rs[i].2.2.2

set_option maxRecDepth 100000 in
set_option maxHeartbeats 2000000 in
theorem itr_main (c o cap : Nat) (sl2 : Option Addr) (cap2 : Nat) (rs : List LSt) (ps : List LPr) (w : World) (h1 : 1 ≤ rs.length) (h2 : rs.length ≤ 12) (h3 : ps.length ≤ 40) (hz : StAt w c o rs) (hd : ∀ r ∈ rs, DomIn w r) (hp : Prs w sl2 ps) (hw : ∀ p ∈ ps, WfP p) :
    Calls Try.prog 33 #[TV (some ⟨c, o, none⟩) rs.length cap sl2 ps.length cap2] w fun e w' => e = .returned (.bool (B (TabR rs ps))) ∧ Below w.heap.size w w' := by
  have h1' : ¬ (rs.length : Int) < 1 := by omega
  have h2' : ¬ (12 : Int) < (rs.length : Int) := by omega
  have h3' : ¬ (40 : Int) < (ps.length : Int) := by omega
  have B0 := Lib.hid (bA0 w (.cells #[.slice (some ⟨c, o, none⟩) rs.length cap, .slice sl2 ps.length cap2] 26))
  have HZ := Lib.hid (hz.below B0.out)
  have HD := Lib.hid (fun r hr => (hd r hr).below B0.out)
  have HP := Lib.hid (hp.below B0.out)
  have HT := Lib.hid (TabAt.new w (some ⟨c, o, none⟩) rs.length cap sl2 ps.length cap2)
  have HW := Lib.hid hw
  have RN : Hid (AllSt rs rs.length → ¬ InRise 1 999 (idsL rs) → B (TabR rs ps) = false) := fun _ h => B_no (fun g => h g.2.2.1)
  have RY : Hid (AllSt rs rs.length → InRise 1 999 (idsL rs) → B (TabR rs ps) = B (PairsOK (idsL rs) ps)) := fun ha hb => B_iff ⟨fun g => ⟨g.2.2.2.1, g.2.2.2.2⟩, fun g => ⟨⟨h1, h2, h3⟩, fun r hr => by
    obtain ⟨i, hi, rfl⟩ := List.getElem_of_mem hr
    exact ha i hi hi, hb, g.1, g.2⟩⟩
  clear hz hd hp hw
  generalize hN : rs.length = n at *
  generalize hM : ps.length = m at *
  have HN := Lib.hid hN
  have HM := Lib.hid hM
  clear hN hM
  go_enter Try.func33, Try.ntmps33
  go_wp2_with fail
  generalize (w.alloc (.cells #[.slice (some ⟨c, o, none⟩) n cap, .slice sl2 m cap2] 26)) = w0 at *
  go_loopw [25] (fun i wr => ∃ k : Nat, i = .int .i64 k ∧ k ≤ n ∧ Hid (AllSt rs k) ∧ Hid (Below w0.heap.size w0 wr)) (fun i _ => n - (intOf i).toNat)
  case atStart => exact ⟨0, rfl, Nat.zero_le _, fun i h hk => absurd hk (Nat.not_lt_zero _), Below.refl _ _⟩
  case round =>
    obtain ⟨k, rfl, hk, H1, H2⟩ := hrel
    have hk0 : (0 : Int) ≤ (k : Int) := by omega
    by_cases c1 : k < n
    · have c1' : (k : Int) < (n : Int) := by omega
      have hlt : k < rs.length := by rw [HN.out]; exact c1
      have Z1 := HZ.out.below H2.out
      obtain ⟨hc0, hc1, hc2⟩ := Z1.cell k hlt
      have hcl := Z1.lt
      obtain ⟨sld, capd, ed, hi, hdl⟩ := (HD.out rs[k] (List.getElem_mem hlt)).below H2.out
      rw [ed] at hc2
      have S1 : Hid (∀ W, Below wr.heap.size wr W → Calls Try.prog 42 #[SV rs[k].1 rs[k].2.1 sld rs[k].2.2.2.length capd] W fun e w' => e = .returned (.bool (B (StOK rs[k].2.1 rs[k].2.2.2))) ∧ Below W.heap.size W w') := fun W hW => sr_any _ _ sld capd _ W (by unfold maxLen; omega) (hi.below hW)
      by_cases hs : StOK rs[k].2.1 rs[k].2.2.2
      · rw [B_yes hs] at S1
        have HS : Hid (AllSt rs (k + 1)) := fun i h hik => by
          by_cases e : i = k
          · subst e; exact hs
          · exact H1.out i h (by omega)
        clear hs hi hdl ed Z1
        generalize rs[k].1 = x at *
        generalize rs[k].2.1 = y at *
        generalize rs[k].2.2.2.length = q at *
        clear hlt
        go_wp2_with fail
        refine (S1.out _ (bA0 _ _)).mono ?_
        rintro e w5 ⟨rfl, b5⟩
        have D5 := Lib.hid (bT (bA H2.out _) b5)
        clear b5
        go_wp2_with fail
        go_roundw
        case rel => exact ⟨k + 1, by go_num, by omega, HS, D5⟩
        case measure => simp [intOf]; omega
      · rw [B_no hs] at S1
        have F := Lib.hid (B_no (p := TabR rs ps) (fun g => hs (g.2.1 _ (List.getElem_mem hlt))))
        clear hs hi hdl ed Z1
        generalize rs[k].1 = x at *
        generalize rs[k].2.1 = y at *
        generalize rs[k].2.2.2.length = q at *
        clear hlt
        go_wp2_with fail
        refine (S1.out _ (bA0 _ _)).mono ?_
        rintro e w5 ⟨rfl, b5⟩
        have D5 := Lib.hid (bT B0.out (bT (bA H2.out _) b5))
        clear b5
        go_wp2
        go_ret
        exact ⟨by rw [F.out]; rfl, D5.out⟩
    · have c1' : ¬ (k : Int) < (n : Int) := by omega
      have AS := Lib.hid (show AllSt rs n by have := H1.out; rwa [show k = n by omega] at this)
      have SR := Lib.hid (Sts.mk (sl := some ⟨c, o, none⟩) (Or.inr ⟨c, o, rfl, HZ.out.below H2.out⟩) (fun r hr => (HD.out r hr).below H2.out))
      have ID := Lib.hid (ids_any (some ⟨c, o, none⟩) cap sl2 m cap2 rs wr (by rw [HN.out]; omega) SR.out)
      rw [HN.out] at ID
      obtain ⟨t0, t1⟩ := (HT.out.below H2.out).cells
      have tl := (HT.out.below H2.out).lt
      have HPr := Lib.hid (HP.out.below H2.out)
      have BR := Lib.hid (bT B0.out H2.out)
      have HTr := Lib.hid (HT.out.below H2.out)
      clear H1 H2 HZ HD HP HT SR
      go_wp2_with fail
      refine ID.out.mono ?_
      rintro e w5 ⟨v, rfl, o5, b5⟩
      have o5' := o5
      rw [show n = (idsL rs).length by rw [idsL_len, HN.out]] at o5'
      obtain ⟨sl5, cap5, rfl, i5⟩ := own_ints o5'
      have IL := Lib.hid (show (idsL rs).length = n by rw [idsL_len, HN.out])
      have I5 := Lib.hid i5
      have B5 := Lib.hid (bT BR.out b5)
      have P5 := Lib.hid (HPr.out.below b5)
      have T5 := Lib.hid (HTr.out.below b5)
      have RW := Lib.hid (rw_any 1 999 sl5 cap5 (idsL rs) w5 (by rw [IL.out]; unfold maxLen; omega) I5.out)
      clear o5 o5' b5 ID t0 t1 tl i5
      obtain ⟨t0, t1⟩ := T5.out.cells
      have tl := T5.out.lt
      by_cases hr : InRise 1 999 (idsL rs)
      · rw [B_yes hr] at RW
        have F := Lib.hid (RY.out AS.out hr)
        have PS : Hid (∀ W, Below w5.heap.size w5 W → Calls Try.prog 43 #[.slice sl2 m cap2, .slice sl5 (idsL rs).length cap5] W fun e w' => e = .returned (.bool (B (PairsOK (idsL rs) ps))) ∧ Below W.heap.size W w') := fun W hW => by
          have := psr_any sl2 cap2 sl5 cap5 ps (idsL rs) W (by rw [HM.out]; omega) (by rw [IL.out]; omega) (P5.out.below hW) (I5.out.below hW) HW.out
          rwa [HM.out] at this
        generalize B (PairsOK (idsL rs) ps) = y at *
        generalize (idsL rs).length = q at *
        clear hr
        go_wp2_with fail
        refine RW.out.mono ?_
        rintro e w6 ⟨rfl, b6⟩
        have D6 := Lib.hid b6
        clear b6 t0 t1 tl
        obtain ⟨t0, t1⟩ := (T5.out.below D6.out).cells
        have tl := (T5.out.below D6.out).lt
        go_wp2_with fail
        refine (PS.out _ D6.out).mono ?_
        rintro e w7 ⟨rfl, b7⟩
        have D7 := Lib.hid (bT B5.out (bT D6.out b7))
        clear b7
        go_wp2
        go_ret
        exact ⟨by rw [F.out]; rfl, D7.out⟩
      · rw [B_no hr] at RW
        have F := Lib.hid (RN.out AS.out hr)
        generalize (idsL rs).length = q at *
        clear hr
        go_wp2_with fail
        refine RW.out.mono ?_
        rintro e w6 ⟨rfl, b6⟩
        have D7 := Lib.hid (bT B5.out b6)
        clear b6
        go_wp2
        go_ret
        exact ⟨by rw [F.out]; rfl, D7.out⟩

/-- impl.TableRight, at every table. -/
theorem itr_any (sl : Option Addr) (cap : Nat) (sl2 : Option Addr) (cap2 : Nat) (rs : List LSt) (ps : List LPr) (w : World) (hz : Sts w sl rs) (hp : Prs w sl2 ps) (hw : ∀ p ∈ ps, WfP p) :
    Calls Try.prog 33 #[TV sl rs.length cap sl2 ps.length cap2] w fun e w' => e = .returned (.bool (B (TabR rs ps))) ∧ Below w.heap.size w w' := by
  by_cases h : 1 ≤ rs.length ∧ rs.length ≤ 12 ∧ ps.length ≤ 40
  · rcases hz.row with e | ⟨c, o, rfl, h0⟩
    · rw [e] at h; simp at h
    · exact itr_main c o cap sl2 cap2 rs ps w h.1 h.2.1 h.2.2 h0 hz.dom hp hw
  · rw [B_no (fun g => h g.1)]
    exact itr_size sl _ cap sl2 _ cap2 w h

end Go.Proofs.Ytgfclllfkpblnaa
