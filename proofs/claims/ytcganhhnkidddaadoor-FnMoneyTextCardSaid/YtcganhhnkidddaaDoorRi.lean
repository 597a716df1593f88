/-
  READING MONEY, AS THE MODEL DOES, AT EVERY TEXT; AND THE LAW FnExactMoneyRead's WALK.
-/
import Derived.Test.YtcganhhnkidddaaDoorRe
import Derived.Test.YtcganhhnkidddaaDoorRf
import Derived.Test.YtcganhhnkidddaaDoorRg
import Derived.Test.YtcganhhnkidddaaDoorRh
import Derived.Lib.Hide
namespace Go.Proofs.YtcganhhnkidddaaDoor
open Go.RowKit
set_option linter.unusedVariables false

set_option maxHeartbeats 1000000 in
theorem srd_long (s : ByteArray) (h : 20000 < s.size) (w : World) : Calls Tryd.prog 10 #[.string s] w fun e w' => e = .returned (M 0 2) ∧ Below w.heap.size w w' := by
  have h' : (20000 : Int) < (s.size : Int) := by omega
  go_enter Tryd.func10, Tryd.ntmps10
  go_wp2
  exact bodyPost_ret (v := M 0 2) (by simp [results, Tryd.results10, go_sem, M]) rfl ⟨rfl, bA0 _ _⟩
set_option maxHeartbeats 1000000 in
theorem srd_few (s : ByteArray) (h : s.size < 4 ∨ 20 ≤ s.size) (h2 : s.size ≤ 20000) (w : World) : Calls Tryd.prog 10 #[.string s] w fun e w' => e = .returned (M 0 3) ∧ Below w.heap.size w w' := by
  have h' : ¬ (20000 : Int) < (s.size : Int) := by omega
  rcases h with h | h
  · have h3 : decide ((4 : Int) ≤ (s.size : Int)) = false := by simp; omega
    clear h h2
    go_enter Tryd.func10, Tryd.ntmps10
    go_wp2
    all_goals exact bodyPost_ret (v := M 0 3) (by simp [results, Tryd.results10, go_sem, M]) rfl ⟨rfl, bA0 _ _⟩
  · have h3 : (4 : Int) ≤ (s.size : Int) := by omega
    have h4 : ¬ (s.size : Int) < 20 := by omega
    clear h h2
    go_enter Tryd.func10, Tryd.ntmps10
    go_wp2
    all_goals exact bodyPost_ret (v := M 0 3) (by simp [results, Tryd.results10, go_sem, M]) rfl ⟨rfl, bA0 _ _⟩

theorem cut_head (s : ByteArray) (hw : 0 < (s.extract 0 (s.size - 3)).size) : (s.extract 0 (s.size - 3)).data.toList.head? = some (s.extract 0 (s.size - 3))[0] := head_ba _ hw

theorem mag_nonneg (v : Int) : 0 ≤ mag v := by unfold mag; omega

set_option maxHeartbeats 1000000 in
theorem srd_any (s : ByteArray) (w : World) : Calls Tryd.prog 10 #[.string s] w fun e w' => e = .returned (M (rdV s.data.toList) (rdC s.data.toList)) ∧ Below w.heap.size w w' := by
  have hlen : s.data.toList.length = s.size := by simp
  by_cases h1 : 20000 < s.size
  · have hr := rd_long (t := s.data.toList) (by omega)
    rw [hr.1, hr.2]; exact srd_long s h1 w
  · by_cases h2 : s.size < 4 ∨ 20 ≤ s.size
    · have hr := rd_bad (t := s.data.toList) (by omega) (fun h => by have := good_len h; omega)
      rw [hr.1, hr.2]; exact srd_few s h2 (by omega) w
    · have h4 : 4 ≤ s.size := by omega
      have h20 : s.size < 20 := by omega
      have hw : 0 < (s.extract 0 (s.size - 3)).size := by simp; omega
      by_cases hg : goodT s.data.toList
      · have hr := rd_good (t := s.data.toList) (by omega) hg
        rw [hr.1, hr.2]
        obtain ⟨g1, g2⟩ := good_parts s hg
        have k0 : 0 < (s.extract (s.size - 2) s.size).size := by simp; omega
        have k1 : 1 < (s.extract (s.size - 2) s.size).size := by simp; omega
        obtain ⟨eP, eQ⟩ := good_two s hg k0 k1
        have hm := isM_t hg.1
        have m0 := mag_nonneg (vOf s.data.toList)
        have m1 : mag (vOf s.data.toList) ≤ 1000000000000 := by unfold mag; omega
        have HM : ∀ w1, Calls Tryd.prog 11 #[.int .i64 (vOf s.data.toList)] w1 fun e w' => e = .returned (.string s) ∧ Below w1.heap.size w1 w' := fun w1 => by
          have := smt_any (vOf s.data.toList) w1
          rwa [told_self s hg] at this
        have hu : (mag (vOf s.data.toList) / 100).toNat ≤ 10000000000 := by omega
        have hnum : ∀ W : ByteArray, W.size ≤ 1000 → W.data.toList = qD (vOf s.data.toList) → ∀ w1, Calls Tryd.prog 22 #[.string W] w1 fun e w' => e = .returned (.tuple #[.int .i64 ((mag (vOf s.data.toList) / 100).toNat : Int), .bool true]) ∧ Below w1.heap.size w1 w' := fun W hW hl w1 => by
          refine (num_any W hW w1).mono ?_
          rintro e w' ⟨n, b, rfl, ⟨-, -, hq⟩, hb⟩
          obtain ⟨rfl, rfl⟩ := hq _ hu hl
          exact ⟨rfl, hb⟩
        have hhd := cut_head s hw
        by_cases hv : vOf s.data.toList < 0
        · have es : sgn (vOf s.data.toList) = [45] := by simp [sgn, hv]
          rw [es] at g1
          have h45 : (s.extract 0 (s.size - 3))[0].toNat = 45 := by
            rw [g1] at hhd
            have : (45 : UInt8) = (s.extract 0 (s.size - 3))[0] := by simpa using hhd
            rw [← this]; rfl
          have el : ((s.extract 0 (s.size - 3)).extract 1 (s.size - 3)).data.toList = qD (vOf s.data.toList) := by
            rw [Lib.extract_data, g1]
            have hz : ([45] ++ qD (vOf s.data.toList)).length = s.size - 3 := by rw [← g1]; simp
            simp at hz
            simp only [List.cons_append, List.nil_append, List.drop_succ_cons, List.drop_zero]
            exact List.take_of_length_le (by omega)
          have ev : -(100 * ((mag (vOf s.data.toList) / 100).toNat : Int) + 10 * (mag (vOf s.data.toList) / 10 % 10) + mag (vOf s.data.toList) % 10) = vOf s.data.toList := by unfold mag at *; omega
          have := srd_good_neg s ((mag (vOf s.data.toList) / 100).toNat : Int) (mag (vOf s.data.toList) / 10 % 10) (mag (vOf s.data.toList) % 10) h4 h20 w hw h45 (by omega) (by omega) (by omega) (by omega) (by omega) (by omega)
            (Lib.hid (hnum _ (by simp; omega) el)) k0 k1 eP eQ (by rw [ev]; exact Lib.hid HM)
          rwa [ev] at this
        · have es : sgn (vOf s.data.toList) = [] := by simp [sgn, hv]
          rw [es, List.nil_append] at g1
          have h45 : ¬ (s.extract 0 (s.size - 3))[0].toNat = 45 := by
            intro h45
            have hd := dec_dig _ _ (Nat.le_refl (mag (vOf s.data.toList) / 100).toNat)
            rw [g1] at hhd
            have hm : (s.extract 0 (s.size - 3))[0] ∈ Lib.decDigits (mag (vOf s.data.toList) / 100).toNat := List.mem_of_mem_head? (by show _ ∈ List.head? _; unfold qD at hhd; rw [hhd]; rfl)
            have := List.all_eq_true.1 hd _ hm
            simp only [isDig, decide_eq_true_eq] at this
            omega
          have ev : 100 * ((mag (vOf s.data.toList) / 100).toNat : Int) + 10 * (mag (vOf s.data.toList) / 10 % 10) + mag (vOf s.data.toList) % 10 = vOf s.data.toList := by unfold mag at *; omega
          have := srd_good_pos s ((mag (vOf s.data.toList) / 100).toNat : Int) (mag (vOf s.data.toList) / 10 % 10) (mag (vOf s.data.toList) % 10) h4 h20 w hw h45 (by omega) (by omega) (by omega) (by omega) (by omega) (by omega)
            (Lib.hid (hnum _ (by simp; omega) g1)) k0 k1 eP eQ (by rw [ev]; exact Lib.hid HM)
          rwa [ev] at this
      · have hr := rd_bad (t := s.data.toList) (by omega) hg
        rw [hr.1, hr.2]
        by_cases h45 : (s.extract 0 (s.size - 3))[0].toNat = 45
        · exact srd_bad_neg s h4 h20 w hg hw h45
        · exact srd_bad_pos s h4 h20 w hg hw h45

set_option maxHeartbeats 1000000 in
theorem lawRead (s : ByteArray) (hs : s.size ≤ maxLen) (w : World) (ht : PowTab w) :
    Calls Tryd.prog 5 #[.string s] w fun e w' => e = .returned (.bool true) ∧ Below w.heap.size w w' := by
  by_cases h : 1048576 < s.size
  · have h' : (1048576 : Int) < (s.size : Int) := by omega
    clear ht
    go_enter Tryd.func5, Tryd.ntmps5
    go_wp2
    go_ret
    exact ⟨rfl, Below.refl _ _⟩
  · have h' : ¬ (1048576 : Int) < (s.size : Int) := by omega
    have HI : Hid (∀ w1, Below w.heap.size w w1 → Calls Tryd.prog 8 #[.string s] w1 fun e w' => e = .returned (M (rdV s.data.toList) (rdC s.data.toList)) ∧ Below w1.heap.size w1 w') := fun w1 hb => ird_any s hs w1 (ht.below hb)
    have HS : Hid (∀ w1, Calls Tryd.prog 10 #[.string s] w1 fun e w' => e = .returned (M (rdV s.data.toList) (rdC s.data.toList)) ∧ Below w1.heap.size w1 w') := fun w1 => srd_any s w1
    generalize rdV s.data.toList = v at *
    generalize rdC s.data.toList = c at *
    clear ht
    go_enter Tryd.func5, Tryd.ntmps5
    go_wp2_with fail
    refine (HS.out _).mono ?_
    rintro e w1 ⟨rfl, b1⟩
    have B1 : Hid (Below w.heap.size w w1) := b1
    clear b1
    go_wp2_with fail
    refine (HI.out _ (bA B1.out _)).mono ?_
    rintro e w2 ⟨rfl, b2⟩
    obtain ⟨hc, hf⟩ := bcell b2; have hz := bZ b2
    have B2 : Hid (Below w.heap.size w w2) := bT (bA B1.out _) b2
    clear b2
    go_wp2_with fail
    refine (eqOut_same _ _ _).mono ?_
    rintro e w3 ⟨rfl, b3⟩
    have B3 : Hid (Below w.heap.size w w3) := bT (bA B2.out _) b3
    clear b3
    go_wp2_with fail
    go_ret
    exact ⟨rfl, B3.out⟩

end Go.Proofs.YtcganhhnkidddaaDoor
