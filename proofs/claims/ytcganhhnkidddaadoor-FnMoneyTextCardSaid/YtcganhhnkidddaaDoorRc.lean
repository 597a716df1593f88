/-
  READING A NUMBER, AS THE MODEL DOES: a number in its own digits is read as it is.
-/
import Derived.Test.YtcganhhnkidddaaDoorRb
namespace Go.Proofs.YtcganhhnkidddaaDoor
open Go.RowKit
set_option linter.unusedVariables false

abbrev NumIs (t : List UInt8) (n : Int) (b : Bool) : Prop := -1000000000000000 ≤ n ∧ n ≤ 1000000000000000 ∧ ∀ u : Nat, u ≤ 10000000000 → t = Lib.decDigits u → n = u ∧ b = true

def NumPost (t : List UInt8) (w : World) (e : Ending) (w' : World) : Prop := ∃ n b, e = .returned (.tuple #[.int .i64 n, .bool b]) ∧ NumIs t n b ∧ Below w.heap.size w w'

theorem num_none (t : List UInt8) (h : ∀ u : Nat, u ≤ 10000000000 → t ≠ Lib.decDigits u) (n : Int) (b : Bool) (h0 : -1000000000000000 ≤ n) (h1 : n ≤ 1000000000000000) : NumIs t n b :=
  ⟨h0, h1, fun u hu e => absurd e (h u hu)⟩
theorem num_dig (s : ByteArray) (k : Nat) (hk : k < s.size) (hd : isDig s[k] = false) (u : Nat) : s.data.toList ≠ Lib.decDigits u := by
  intro e
  have h := dec_dig u u (Nat.le_refl _)
  rw [← e, List.all_eq_true] at h
  have := h s[k] (by simp [ByteArray.getElem_eq_getElem_data])
  rw [hd] at this; cases this
theorem num_itoa (s : ByteArray) : NumIs s.data.toList (dv s.data.toList) ((⟨(Lib.itoa (dv s.data.toList)).toArray⟩ : ByteArray).toList == s.toList) ∨ 15 < s.size := by
  by_cases h : 15 < s.size
  · exact .inr h
  · have hd := dv_small s.data.toList (by simp; omega)
    refine .inl ⟨by omega, by omega, fun u hu e => ?_⟩
    have e2 := dv_dec u u (Nat.le_refl _)
    rw [← e] at e2
    refine ⟨e2, ?_⟩
    rw [e2, Go.ByteArray.toList_eq, Go.ByteArray.toList_eq, Lib.itoa, if_neg (by omega)]
    simp [e]

set_option maxHeartbeats 1000000 in
theorem num_pos (s : ByteArray) (hs : s.size ≤ 15) (hp : 0 < s.size) (h45 : s[0].toNat ≠ 45) (w : World) :
    Calls Tryd.prog 22 #[.string s] w fun e w' => NumPost s.data.toList w e w' := by
  have HF : Hid (∀ (k : Nat) (hk : k < s.size), isDig s[k] = false → NumIs s.data.toList 0 false) := fun k hk hd => num_none _ (fun u _ => num_dig s k hk hd u) _ _ (by decide) (by decide)
  have HE : Hid (NumIs s.data.toList (dv s.data.toList) ((⟨(Lib.itoa (dv s.data.toList)).toArray⟩ : ByteArray).toList == s.toList)) := (num_itoa s).resolve_right (by omega)
  go_enter Tryd.func22, Tryd.ntmps22
  go_wp2
  go_loop [6, 7] (fun n i => ∃ k : Nat, k ≤ s.size ∧ i = .int .i64 k ∧ n = .int .i64 (dv (s.data.toList.take k))) (fun _ i => s.size - (RowKit.intOf i).toNat)
  case atStart => exact ⟨0, Nat.zero_le _, rfl, rfl⟩
  case round =>
    obtain ⟨k, hk, rfl, rfl⟩ := hrel
    have hd := dv_small (s.data.toList.take k) (by simp; omega)
    obtain ⟨d0, d1⟩ := hd
    by_cases hlt : k < s.size
    · have HS : Hid (dv (s.data.toList.take (k + 1)) = dvS (dv (s.data.toList.take k)) s[k]) := by
        show dv (s.data.toList.take (k + 1)) = _
        rw [take_snoc s k hlt, dv_snoc]
      generalize dv (s.data.toList.take k) = n at *
      by_cases h1 : 48 ≤ (s[k].toNat : Int)
      · by_cases h2 : (s[k].toNat : Int) ≤ 57
        · have HE2 : Hid (dvS n s[k] = 10 * n + ((s[k].toNat : Int) - 48)) := by show dvS n s[k] = _; simp [dvS, isDig, h1, h2]
          go_wp2
          go_round
          case rel => exact ⟨k + 1, by omega, by go_num, by rw [HS.out, HE2.out]⟩
          case measure => simp [RowKit.intOf]; omega
        · have HN := HF.out k hlt (by simp [isDig, h2])
          go_wp2
          all_goals
            exact bodyPost_ret (v := .tuple #[.int .i64 0, .bool false]) (by simp [results, Tryd.results22, go_sem]) rfl ⟨0, false, rfl, HN, Below.refl _ _⟩
      · have HN := HF.out k hlt (by simp [isDig, h1])
        go_wp2
        all_goals
          exact bodyPost_ret (v := .tuple #[.int .i64 0, .bool false]) (by simp [results, Tryd.results22, go_sem]) rfl ⟨0, false, rfl, HN, Below.refl _ _⟩
    · have ek : s.data.toList.take k = s.data.toList := List.take_of_length_le (by simp; omega)
      rw [ek] at d0 d1 ⊢
      have HD : Hid (∀ w, Calls Tryd.prog 25 #[.int .i64 (dv s.data.toList)] w fun e w' => e = .returned (.string ⟨(Lib.itoa (dv s.data.toList)).toArray⟩) ∧ Below w.heap.size w w') := fun w => dec_any _ (by omega) w
      clear ek
      generalize dv s.data.toList = n at *
      generalize (⟨(Lib.itoa n).toArray⟩ : ByteArray) = x at *
      go_wp2_with fail
      refine (HD.out _).mono ?_
      rintro e w1 ⟨rfl, hb⟩
      go_wp2
      exact bodyPost_ret (v := .tuple #[.int .i64 n, .bool (x.toList == s.toList)]) (by simp [results, Tryd.results22, go_sem]) rfl ⟨_, _, rfl, HE.out, hb⟩

theorem num_len (s : ByteArray) (h : s.size = 0 ∨ 15 < s.size) (u : Nat) (hu : u ≤ 10000000000) : s.data.toList ≠ Lib.decDigits u := by
  intro e
  have h1 := dec_len u hu
  have h2 : s.data.toList.length = s.size := by simp
  rw [e] at h2; omega
theorem num_head (s : ByteArray) (hp : 0 < s.size) (h45 : s[0].toNat = 45) (u : Nat) : s.data.toList ≠ Lib.decDigits u := by
  intro e
  have h1 := dec_head u
  rw [← e, head_ba s hp] at h1
  exact h1 (congrArg some (UInt8.toNat_inj.1 h45))

set_option maxHeartbeats 1000000 in
theorem num_neg (s : ByteArray) (hs : s.size ≤ 1000) (hp : 0 < s.size) (h45 : s[0].toNat = 45) (w : World) :
    Calls Tryd.prog 22 #[.string s] w fun e w' => NumPost s.data.toList w e w' := by
  have HF : Hid (∀ n b, -1000000000000000 ≤ n → n ≤ 1000000000000000 → NumIs s.data.toList n b) := fun n b h0 h1 => num_none _ (fun u _ => num_head s hp h45 u) n b h0 h1
  have HN := HF.out 0 false (by decide) (by decide)
  have hz : (s.extract 1 s.size).size = s.size - 1 := by simp
  by_cases h1 : s.size = 1
  · go_enter Tryd.func22, Tryd.ntmps22
    go_wp2
    all_goals exact bodyPost_ret (v := .tuple #[.int .i64 0, .bool false]) (by simp [results, Tryd.results22, go_sem]) rfl ⟨0, false, rfl, HN, Below.refl _ _⟩
  · by_cases h2 : 16 < s.size
    · go_enter Tryd.func22, Tryd.ntmps22
      go_wp2
      all_goals exact bodyPost_ret (v := .tuple #[.int .i64 0, .bool false]) (by simp [results, Tryd.results22, go_sem]) rfl ⟨0, false, rfl, HN, Below.refl _ _⟩
    · go_enter Tryd.func22, Tryd.ntmps22
      go_wp2
      generalize s.extract 1 s.size = d at *
      go_loop [6, 7] (fun n i => ∃ k : Nat, k ≤ d.size ∧ i = .int .i64 k ∧ n = .int .i64 (dv (d.data.toList.take k))) (fun _ i => d.size - (RowKit.intOf i).toNat)
      case atStart => exact ⟨0, Nat.zero_le _, rfl, rfl⟩
      case round =>
        obtain ⟨k, hk, rfl, rfl⟩ := hrel
        have hd := dv_small (d.data.toList.take k) (by simp; omega)
        obtain ⟨d0, d1⟩ := hd
        by_cases hlt : k < d.size
        · have HS : Hid (dv (d.data.toList.take (k + 1)) = dvS (dv (d.data.toList.take k)) d[k]) := by
            show dv (d.data.toList.take (k + 1)) = _
            rw [take_snoc d k hlt, dv_snoc]
          generalize dv (d.data.toList.take k) = n at *
          by_cases h1 : 48 ≤ (d[k].toNat : Int)
          · by_cases h2 : (d[k].toNat : Int) ≤ 57
            · have HE2 : Hid (dvS n d[k] = 10 * n + ((d[k].toNat : Int) - 48)) := by show dvS n d[k] = _; simp [dvS, isDig, h1, h2]
              go_wp2
              go_round
              case rel => exact ⟨k + 1, by omega, by go_num, by rw [HS.out, HE2.out]⟩
              case measure => simp [RowKit.intOf]; omega
            · go_wp2
              all_goals exact bodyPost_ret (v := .tuple #[.int .i64 0, .bool false]) (by simp [results, Tryd.results22, go_sem]) rfl ⟨0, false, rfl, HN, Below.refl _ _⟩
          · go_wp2
            all_goals exact bodyPost_ret (v := .tuple #[.int .i64 0, .bool false]) (by simp [results, Tryd.results22, go_sem]) rfl ⟨0, false, rfl, HN, Below.refl _ _⟩
        · generalize dv (d.data.toList.take k) = n at *
          have HD : Hid (∀ w, Calls Tryd.prog 25 #[.int .i64 (-n)] w fun e w' => e = .returned (.string ⟨(Lib.itoa (-n)).toArray⟩) ∧ Below w.heap.size w w') := fun w => dec_any _ (by omega) w
          generalize (⟨(Lib.itoa (-n)).toArray⟩ : ByteArray) = x at *
          have ew : IntKind.i64.wrap (-n) = -n := wrapI _ (by omega)
          go_wp2_with fail
          refine (HD.out _).mono ?_
          rintro e w1 ⟨rfl, hb⟩
          go_wp2
          exact bodyPost_ret (v := .tuple #[.int .i64 (-n), .bool (x.toList == s.toList)]) (by simp [results, Tryd.results22, go_sem]) rfl ⟨_, _, rfl, HF.out _ _ (by omega) (by omega), hb⟩

set_option maxHeartbeats 1000000 in
theorem num_any (s : ByteArray) (hs : s.size ≤ 1000) (w : World) :
    Calls Tryd.prog 22 #[.string s] w fun e w' => NumPost s.data.toList w e w' := by
  by_cases h0 : s.size = 0
  · have HN := num_none _ (num_len s (.inl h0)) 0 false (by decide) (by decide)
    go_enter Tryd.func22, Tryd.ntmps22
    go_wp2
    all_goals exact bodyPost_ret (v := .tuple #[.int .i64 0, .bool false]) (by simp [results, Tryd.results22, go_sem]) rfl ⟨0, false, rfl, HN, Below.refl _ _⟩
  · have hp : 0 < s.size := Nat.pos_of_ne_zero h0
    by_cases h45 : (s[0]'hp).toNat = 45
    · exact num_neg s hs hp h45 w
    · by_cases h1 : s.size ≤ 15
      · exact num_pos s h1 hp h45 w
      · have HN := num_none _ (num_len s (.inr (by omega))) 0 false (by decide) (by decide)
        go_enter Tryd.func22, Tryd.ntmps22
        go_wp2
        all_goals exact bodyPost_ret (v := .tuple #[.int .i64 0, .bool false]) (by simp [results, Tryd.results22, go_sem]) rfl ⟨0, false, rfl, HN, Below.refl _ _⟩

end Go.Proofs.YtcganhhnkidddaaDoor
