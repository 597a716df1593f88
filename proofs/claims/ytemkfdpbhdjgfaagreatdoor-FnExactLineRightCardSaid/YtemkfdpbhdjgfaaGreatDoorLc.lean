/-
  READING A NUMBER, AS THE MODEL DOES: l01Num.
-/
import Derived.Test.YtemkfdpbhdjgfaaGreatDoorLb
namespace Go.Proofs.YtemkfdpbhdjgfaaGreatDoor
open Go.RowKit
set_option linter.unusedVariables false

theorem take_snoc (s : ByteArray) (k : Nat) (h : k < s.size) : s.data.toList.take (k + 1) = s.data.toList.take k ++ [s[k]] := by
  rw [List.take_succ_eq_append_getElem (by simpa using h)]; rfl
theorem head_ba (s : ByteArray) (h : 0 < s.size) : s.data.toList.head? = some s[0] := by
  rw [List.head?_eq_getElem?, List.getElem?_eq_getElem (by simpa using h)]; rfl
theorem ext_one (s : ByteArray) : (s.extract 1 s.size).data.toList = s.data.toList.tail := by
  rw [Lib.extract_data, List.drop_one, List.take_of_length_le (by simp)]
theorem all_no8 (p : UInt8 → Bool) (d : ByteArray) (k : Nat) (hk : k < d.size) (hp : p d[k] = false) : d.data.toList.all p = false := by
  rw [List.all_eq_false]
  exact ⟨d[k], by simp [ByteArray.getElem_eq_getElem_data], by simp [hp]⟩
theorem eqB (a b : List UInt8) (s : ByteArray) (h : s.data.toList = b) : ((⟨a.toArray⟩ : ByteArray).toList == s.toList) = (a == b) := by
  rw [Go.ByteArray.toList_eq, Go.ByteArray.toList_eq, h]
/-- The number that digits tell, so far as they go. -/
theorem num_no {t : List UInt8} (h : numF t = false) : numV t = 0 ∧ numK t = false := by
  unfold numK numV
  rw [h]
  simp
theorem num_yes {t : List UInt8} (h : numF t = true) : numV t = (if negT t then -dv (digT t) else dv (digT t)) ∧ numK t = (Lib.itoa (if negT t then -dv (digT t) else dv (digT t)) == t) := by
  have e : numV t = (if negT t then -dv (digT t) else dv (digT t)) := by unfold numV; rw [h]; rfl
  refine ⟨e, ?_⟩
  unfold numK
  rw [h, e, Bool.true_and]

set_option maxHeartbeats 2000000 in
/-- Behind the sign. -/
theorem num_pos (s : ByteArray) (hs : s.size ≤ 15) (hp : 0 < s.size) (h45 : s[0].toNat ≠ 45) (w : World) :
    Calls Tryz.prog 10 #[.string s] w fun e w' => e = .returned (.tuple #[.int .i64 (numV s.data.toList), .bool (numK s.data.toList)]) ∧ Below w.heap.size w w' := by
  have hn : negT s.data.toList = false := by
    unfold negT
    rw [head_ba s hp]
    have : ¬ s[0] = 45 := fun e => h45 (by rw [e]; rfl)
    simpa using this
  have hd : digT s.data.toList = s.data.toList := by unfold digT; rw [hn]; rfl
  have hl : 1 ≤ s.data.toList.length ∧ s.data.toList.length ≤ 15 := by simp; omega
  have hF : numF s.data.toList = s.data.toList.all isDig := by
    unfold numF
    rw [hd, decide_eq_true hl, Bool.true_and]
  have HF : Hid (∀ (k : Nat) (hk : k < s.size), isDig s[k] = false → numV s.data.toList = 0 ∧ numK s.data.toList = false) := fun k hk h => num_no (by rw [hF]; exact all_no8 isDig s k hk h)
  have HE : Hid (s.data.toList.all isDig = true → numV s.data.toList = dv s.data.toList ∧ numK s.data.toList = ((⟨(Lib.itoa (dv s.data.toList)).toArray⟩ : ByteArray).toList == s.toList)) := fun h => by
    have := num_yes (t := s.data.toList) (by rw [hF]; exact h)
    rw [hn, hd] at this
    rw [eqB _ _ s rfl]
    exact this
  clear hn hd hl hF
  generalize numV s.data.toList = nv at *
  generalize numK s.data.toList = nk at *
  go_enter Tryz.func10, Tryz.ntmps10
  go_wp2
  go_loop [6, 7] (fun n i => ∃ k : Nat, k ≤ s.size ∧ i = .int .i64 k ∧ n = .int .i64 (dv (s.data.toList.take k)) ∧ (s.data.toList.take k).all isDig = true) (fun _ i => s.size - (RowKit.intOf i).toNat)
  case atStart => exact ⟨0, Nat.zero_le _, rfl, rfl, rfl⟩
  case round =>
    obtain ⟨k, hk, rfl, rfl, hall⟩ := hrel
    have hd := dv_small (s.data.toList.take k) hall (by simp; omega)
    obtain ⟨d0, d1⟩ := hd
    by_cases hlt : k < s.size
    · have HS : Hid (dv (s.data.toList.take (k + 1)) = dvS (dv (s.data.toList.take k)) s[k]) := by
        show dv (s.data.toList.take (k + 1)) = _
        rw [take_snoc s k hlt, dv_snoc]
      have HA : Hid (isDig s[k] = true → (s.data.toList.take (k + 1)).all isDig = true) := fun h => by
        rw [take_snoc s k hlt, List.all_append, hall]
        simp [h]
      clear hall
      generalize dv (s.data.toList.take k) = n at *
      by_cases h1 : 48 ≤ (s[k].toNat : Int)
      · by_cases h2 : (s[k].toNat : Int) ≤ 57
        · have HE2 : Hid (dvS n s[k] = 10 * n + ((s[k].toNat : Int) - 48)) := rfl
          have HA2 := Lib.hid (HA.out (by simp [isDig, h1, h2]))
          go_wp2
          go_round
          case rel => exact ⟨k + 1, by omega, by go_num, by rw [HS.out, HE2.out], HA2.out⟩
          case measure => simp [RowKit.intOf]; omega
        · obtain ⟨rfl, rfl⟩ := HF.out k hlt (by simp [isDig, h2])
          go_wp2
          all_goals
            exact bodyPost_ret (v := .tuple #[.int .i64 0, .bool false]) (by simp [results, Tryz.results10, go_sem]) rfl ⟨rfl, Below.refl _ _⟩
      · obtain ⟨rfl, rfl⟩ := HF.out k hlt (by simp [isDig, h1])
        go_wp2
        all_goals
          exact bodyPost_ret (v := .tuple #[.int .i64 0, .bool false]) (by simp [results, Tryz.results10, go_sem]) rfl ⟨rfl, Below.refl _ _⟩
    · have ek : s.data.toList.take k = s.data.toList := List.take_of_length_le (by simp; omega)
      rw [ek] at d0 d1 hall ⊢
      obtain ⟨E1, E2⟩ := HE.out hall
      have EE := Lib.hid (And.intro E1 E2)
      clear E1 E2
      have HD : Hid (∀ w, Calls Tryz.prog 16 #[.int .i64 (dv s.data.toList)] w fun e w' => e = .returned (.string ⟨(Lib.itoa (dv s.data.toList)).toArray⟩) ∧ Below w.heap.size w w') := fun w => dec_any _ (by omega) w
      clear ek HE HF hall
      generalize dv s.data.toList = n at *
      generalize (⟨(Lib.itoa n).toArray⟩ : ByteArray) = x at *
      go_wp2_with fail
      refine (HD.out _).mono ?_
      rintro e w1 ⟨rfl, hb⟩
      go_wp2
      exact bodyPost_ret (v := .tuple #[.int .i64 n, .bool (x.toList == s.toList)]) (by simp [results, Tryz.results10, go_sem]) rfl ⟨by rw [EE.out.1, EE.out.2], hb⟩

set_option maxHeartbeats 2000000 in
theorem num_neg (s : ByteArray) (hs : s.size ≤ 1048576) (hp : 0 < s.size) (h45 : s[0].toNat = 45) (w : World) :
    Calls Tryz.prog 10 #[.string s] w fun e w' => e = .returned (.tuple #[.int .i64 (numV s.data.toList), .bool (numK s.data.toList)]) ∧ Below w.heap.size w w' := by
  have hn : negT s.data.toList = true := by
    unfold negT
    rw [head_ba s hp, show s[0] = 45 from UInt8.toNat_inj.1 h45]
    rfl
  have hd : digT s.data.toList = (s.extract 1 s.size).data.toList := by unfold digT; rw [hn, ext_one]; rfl
  have hz : (s.extract 1 s.size).size = s.size - 1 := by simp
  have hl : (digT s.data.toList).length = s.size - 1 := by rw [hd]; simp
  have HL : Hid (¬ (1 ≤ s.size - 1 ∧ s.size - 1 ≤ 15) → numV s.data.toList = 0 ∧ numK s.data.toList = false) := fun h => num_no (by unfold numF; rw [hl, decide_eq_false h, Bool.false_and])
  by_cases h1 : s.size = 1
  · obtain ⟨e1, e2⟩ := HL.out (by omega)
    rw [e1, e2]
    clear hn hd hl HL e1 e2
    go_enter Tryz.func10, Tryz.ntmps10
    go_wp2
    all_goals exact bodyPost_ret (v := .tuple #[.int .i64 0, .bool false]) (by simp [results, Tryz.results10, go_sem]) rfl ⟨rfl, Below.refl _ _⟩
  · by_cases h2 : 16 < s.size
    · obtain ⟨e1, e2⟩ := HL.out (by omega)
      rw [e1, e2]
      clear hn hd hl HL e1 e2
      go_enter Tryz.func10, Tryz.ntmps10
      go_wp2
      all_goals exact bodyPost_ret (v := .tuple #[.int .i64 0, .bool false]) (by simp [results, Tryz.results10, go_sem]) rfl ⟨rfl, Below.refl _ _⟩
    · have hF : numF s.data.toList = (s.extract 1 s.size).data.toList.all isDig := by
        unfold numF
        rw [hl, decide_eq_true (by omega), Bool.true_and, hd]
      have HF : Hid (∀ (k : Nat) (hk : k < (s.extract 1 s.size).size), isDig (s.extract 1 s.size)[k] = false → numV s.data.toList = 0 ∧ numK s.data.toList = false) := fun k hk h => num_no (by rw [hF]; exact all_no8 isDig _ k hk h)
      have HE : Hid ((s.extract 1 s.size).data.toList.all isDig = true → numV s.data.toList = -dv (s.extract 1 s.size).data.toList ∧ numK s.data.toList = ((⟨(Lib.itoa (-dv (s.extract 1 s.size).data.toList)).toArray⟩ : ByteArray).toList == s.toList)) := fun h => by
        have := num_yes (t := s.data.toList) (by rw [hF]; exact h)
        rw [hn, hd] at this
        rw [eqB _ _ s rfl]
        exact this
      clear hn hd hl HL hF
      generalize numV s.data.toList = nv at *
      generalize numK s.data.toList = nk at *
      go_enter Tryz.func10, Tryz.ntmps10
      go_wp2
      generalize s.extract 1 s.size = d at *
      go_loop [6, 7] (fun n i => ∃ k : Nat, k ≤ d.size ∧ i = .int .i64 k ∧ n = .int .i64 (dv (d.data.toList.take k)) ∧ (d.data.toList.take k).all isDig = true) (fun _ i => d.size - (RowKit.intOf i).toNat)
      case atStart => exact ⟨0, Nat.zero_le _, rfl, rfl, rfl⟩
      case round =>
        obtain ⟨k, hk, rfl, rfl, hall⟩ := hrel
        have hd := dv_small (d.data.toList.take k) hall (by simp; omega)
        obtain ⟨d0, d1⟩ := hd
        by_cases hlt : k < d.size
        · have HS : Hid (dv (d.data.toList.take (k + 1)) = dvS (dv (d.data.toList.take k)) d[k]) := by
            show dv (d.data.toList.take (k + 1)) = _
            rw [take_snoc d k hlt, dv_snoc]
          have HA : Hid (isDig d[k] = true → (d.data.toList.take (k + 1)).all isDig = true) := fun h => by
            rw [take_snoc d k hlt, List.all_append, hall]
            simp [h]
          clear hall
          generalize dv (d.data.toList.take k) = n at *
          by_cases h1 : 48 ≤ (d[k].toNat : Int)
          · by_cases h2 : (d[k].toNat : Int) ≤ 57
            · have HE2 : Hid (dvS n d[k] = 10 * n + ((d[k].toNat : Int) - 48)) := rfl
              have HA2 := Lib.hid (HA.out (by simp [isDig, h1, h2]))
              go_wp2
              go_round
              case rel => exact ⟨k + 1, by omega, by go_num, by rw [HS.out, HE2.out], HA2.out⟩
              case measure => simp [RowKit.intOf]; omega
            · obtain ⟨rfl, rfl⟩ := HF.out k hlt (by simp [isDig, h2])
              go_wp2
              all_goals exact bodyPost_ret (v := .tuple #[.int .i64 0, .bool false]) (by simp [results, Tryz.results10, go_sem]) rfl ⟨rfl, Below.refl _ _⟩
          · obtain ⟨rfl, rfl⟩ := HF.out k hlt (by simp [isDig, h1])
            go_wp2
            all_goals exact bodyPost_ret (v := .tuple #[.int .i64 0, .bool false]) (by simp [results, Tryz.results10, go_sem]) rfl ⟨rfl, Below.refl _ _⟩
        · have ek : d.data.toList.take k = d.data.toList := List.take_of_length_le (by simp; omega)
          rw [ek] at d0 d1 hall ⊢
          obtain ⟨E1, E2⟩ := HE.out hall
          have EE := Lib.hid (And.intro E1 E2)
          clear E1 E2
          clear HE HF ek hall
          generalize dv d.data.toList = n at *
          have HD : Hid (∀ w, Calls Tryz.prog 16 #[.int .i64 (-n)] w fun e w' => e = .returned (.string ⟨(Lib.itoa (-n)).toArray⟩) ∧ Below w.heap.size w w') := fun w => dec_any _ (by omega) w
          generalize (⟨(Lib.itoa (-n)).toArray⟩ : ByteArray) = x at *
          have ew : IntKind.i64.wrap (-n) = -n := by rw [IntKind.wrap_i64]; omega
          go_wp2_with fail
          refine (HD.out _).mono ?_
          rintro e w1 ⟨rfl, hb⟩
          go_wp2
          exact bodyPost_ret (v := .tuple #[.int .i64 (-n), .bool (x.toList == s.toList)]) (by simp [results, Tryz.results10, go_sem]) rfl ⟨by rw [EE.out.1, EE.out.2], hb⟩

set_option maxHeartbeats 2000000 in
/-- spec.l01Num. -/
theorem num_any (s : ByteArray) (hs : s.size ≤ 1048576) (w : World) :
    Calls Tryz.prog 10 #[.string s] w fun e w' => e = .returned (.tuple #[.int .i64 (numV s.data.toList), .bool (numK s.data.toList)]) ∧ Below w.heap.size w w' := by
  by_cases h0 : s.size = 0
  · have hs0 : s.data.toList = [] := List.eq_nil_of_length_eq_zero (by simpa using h0)
    obtain ⟨e1, e2⟩ := num_no (t := s.data.toList) (by rw [hs0]; rfl)
    rw [e1, e2]
    clear e1 e2 hs0
    go_enter Tryz.func10, Tryz.ntmps10
    go_wp2
    all_goals exact bodyPost_ret (v := .tuple #[.int .i64 0, .bool false]) (by simp [results, Tryz.results10, go_sem]) rfl ⟨rfl, Below.refl _ _⟩
  · have hp : 0 < s.size := Nat.pos_of_ne_zero h0
    by_cases h45 : (s[0]'hp).toNat = 45
    · exact num_neg s hs hp h45 w
    · by_cases h1 : s.size ≤ 15
      · exact num_pos s h1 hp h45 w
      · have hn : negT s.data.toList = false := by
          unfold negT
          rw [head_ba s hp]
          have : ¬ s[0] = 45 := fun e => h45 (by rw [e]; rfl)
          simpa using this
        have hd : digT s.data.toList = s.data.toList := by unfold digT; rw [hn]; rfl
        obtain ⟨e1, e2⟩ := num_no (t := s.data.toList) (by unfold numF; rw [hd, decide_eq_false (by simp; omega), Bool.false_and])
        rw [e1, e2]
        clear e1 e2 hn hd
        go_enter Tryz.func10, Tryz.ntmps10
        go_wp2
        all_goals exact bodyPost_ret (v := .tuple #[.int .i64 0, .bool false]) (by simp [results, Tryz.results10, go_sem]) rfl ⟨rfl, Below.refl _ _⟩

end Go.Proofs.YtemkfdpbhdjgfaaGreatDoor
