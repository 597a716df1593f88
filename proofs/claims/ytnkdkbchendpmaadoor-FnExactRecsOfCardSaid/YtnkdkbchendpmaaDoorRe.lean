/-
  A RECORD's LENGTH AND SUM, AS THE PROGRAM READS THEM.
-/
import Derived.Test.YtnkdkbchendpmaaDoorRd
namespace Go.Proofs.YtnkdkbchendpmaaDoor
open Go.RowKit
set_option linter.unusedVariables false

theorem two_some {r : List UInt8} {v : Nat} {q : List UInt8} (h : rdN 2 r = some (v, q)) : ∃ q', rdN 9 (r.take 2) = some (v, q') := by
  obtain ⟨e, hl⟩ := rdN_some _ _ _ _ h
  refine ⟨q.take (2 - (numB v).length), ?_⟩
  rw [e, List.take_append, List.take_of_length_le hl]
  exact rdN_numB 9 v _ (by omega)
theorem two_none {r : List UInt8} (h : rdN 2 r = none) : rdN 9 (r.take 2) = none := by
  cases e : rdN 9 (r.take 2) with
  | none => rfl
  | some p =>
    obtain ⟨v, q⟩ := p
    exfalso
    obtain ⟨e1, -⟩ := rdN_some _ _ _ _ e
    have hl : (numB v).length ≤ 2 := by
      have := congrArg List.length e1
      simp at this; omega
    have : rdN 2 r = some (v, q ++ r.drop 2) := by
      have e2 : r = numB v ++ (q ++ r.drop 2) := by rw [← List.append_assoc, ← e1, List.take_append_drop]
      have e3 := rdN_numB 2 v (q ++ r.drop 2) hl
      rwa [← e2] at e3
    rw [h] at this; cases this

/-- Too short to tell a length. -/
def Short (r : List UInt8) : Prop := r = [] ∨ ∃ x, r = [x] ∧ 128 ≤ x.toNat
def LenPost (r : List UInt8) (w : World) (e : Ending) (w' : World) : Prop :=
  ((Short r ∧ e = .returned (.tuple #[.int .i64 0, .int .i64 0, .int .i64 6])) ∨
   (¬ Short r ∧ (∀ n q, rdN 2 r = some (n, q) → 1000 < n) ∧ e = .returned (.tuple #[.int .i64 0, .int .i64 0, .int .i64 3])) ∨
   (¬ Short r ∧ ∃ n q, rdN 2 r = some (n, q) ∧ n ≤ 1000 ∧ e = .returned (.tuple #[.int .i64 n, .int .i64 (numB n).length, .int .i64 0]))) ∧ Below w.heap.size w w'

set_option maxRecDepth 100000 in
set_option maxHeartbeats 1000000 in
theorem len_any (s : ByteArray) (hs : s.size ≤ 20000) (w : World) :
    Calls Tryd.prog 43 #[.string s] w fun e w' => LenPost s.data.toList w e w' := by
  have hlen : s.data.toList.length = s.size := by simp
  by_cases h0 : s.size = 0
  · have e0 : s.data.toList = [] := List.eq_nil_of_length_eq_zero (by omega)
    have hE : s.toList.isEmpty = true := by rw [Go.ByteArray.toList_eq, e0]; rfl
    have F : Hid (Short s.data.toList) := by rw [e0]; exact .inl rfl
    go_enter Tryd.func43, Tryd.ntmps43
    go_wp2
    exact bodyPost_ret (v := .tuple #[.int .i64 0, .int .i64 0, .int .i64 6]) (by simp [results, Tryd.results43, go_sem]) rfl ⟨.inl ⟨F.out, rfl⟩, Below.refl _ _⟩
  · have hE : s.toList.isEmpty = false := by
      rw [Go.ByteArray.toList_eq]
      cases e : s.data.toList with
      | nil => rw [e] at hlen; simp at hlen; omega
      | cons a r => rfl
    have hp : 0 < s.size := by omega
    have hp' : (0 : Int) < (s.size : Int) := by omega
    have hd : s.data.toList = (s[0]'hp) :: s.data.toList.drop 1 := by have := drop_cons s 0 hp; simpa using this
    by_cases h1 : s.size = 1 ∧ 128 ≤ (s[0]'hp).toNat
    · have h1' : ((s.size : Int) == 1) = true := by simp; omega
      have h2' : (128 : Int) ≤ ((s[0]'hp).toNat : Int) := by omega
      have F : Hid (Short s.data.toList) := .inr ⟨s[0]'hp, by rw [hd]; rw [List.drop_of_length_le (by omega)], h1.2⟩
      clear hd
      go_enter Tryd.func43, Tryd.ntmps43
      go_wp2
      exact bodyPost_ret (v := .tuple #[.int .i64 0, .int .i64 0, .int .i64 6]) (by simp [results, Tryd.results43, go_sem]) rfl ⟨.inl ⟨F.out, rfl⟩, Below.refl _ _⟩
    · have NS : Hid (¬ Short s.data.toList) := by
        rintro (e | ⟨x, e, hx⟩)
        · rw [e] at hlen; simp at hlen; omega
        · rw [e] at hd hlen
          simp at hd hlen
          exact h1 ⟨hlen.symm, by rw [← hd]; exact hx⟩
      have A : Hid (∀ m, m = min s.size 2 → ∀ w, Calls Tryd.prog 63 #[.string (s.extract 0 m)] w fun e w' => e = .returned (.tuple #[.int .i64 (ahV (s.data.toList.take 2)), .int .i64 (ahW (s.data.toList.take 2))]) ∧ Below w.heap.size w w') := by
        rintro m rfl w
        have := ahead_any (s.extract 0 (min s.size 2)) (by simp; omega) w
        have ed : (s.extract 0 (min s.size 2)).data.toList = s.data.toList.take 2 := by
          rw [Lib.extract_data]
          simp only [List.drop_zero, Nat.sub_zero]
          by_cases h : s.size ≤ 2
          · rw [Nat.min_eq_left h, List.take_of_length_le (by omega), List.take_of_length_le (by omega)]
          · rw [Nat.min_eq_right (by omega)]
        rwa [ed] at this
      clear hd
      by_cases h3 : s.size = 1
      · have h3' : ((s.size : Int) == 1) = true := by simp; omega
        have h4' : decide ((128 : Int) ≤ ((s[0]'hp).toNat : Int)) = false := by simp; omega
        clear h1
        go_enter Tryd.func43, Tryd.ntmps43
        go_wp2_with fail
        refine (A.out _ (by omega) _).mono ?_
        rintro e w1 ⟨rfl, b1⟩
        have B1 := Lib.hid b1
        clear b1 A
        cases hR : rdN 2 s.data.toList with
        | none =>
          rw [(ah_none (two_none hR)).1, (ah_none (two_none hR)).2]
          have F : Hid (∀ n q, rdN 2 s.data.toList = some (n, q) → 1000 < n) := fun n q h => by rw [hR] at h; cases h
          clear hR
          go_wp2
          exact bodyPost_ret (v := .tuple #[.int .i64 0, .int .i64 0, .int .i64 3]) (by simp [results, Tryd.results43, go_sem]) rfl ⟨.inr (.inl ⟨NS.out, F.out, rfl⟩), B1.out⟩
        | some pr =>
          obtain ⟨v, q⟩ := pr
          obtain ⟨q', hq'⟩ := two_some hR
          rw [(ah_some hq').1, (ah_some hq').2]
          have hv := rdN_lt hR
          have hn : 1 ≤ (numB v).length := by
            cases e : numB v with
            | nil => exact absurd e (numB_ne v)
            | cons a r => simp
          have hn2 : (numB v).length ≤ 2 := (rdN_some _ _ _ _ hR).2
          have hz : (((numB v).length : Int) == 0) = false := by rw [beq_eq_false_iff_ne]; omega
          have HR := Lib.hid hR
          clear hR hq'
          by_cases h5 : 1000 < v
          · have h5' : (1000 : Int) < (v : Int) := by omega
            have F : Hid (∀ n q, rdN 2 s.data.toList = some (n, q) → 1000 < n) := fun n q h => by
              rw [HR.out] at h; simp only [Option.some.injEq, Prod.mk.injEq] at h; omega
            generalize (numB v).length = m at *
            go_wp2
            exact bodyPost_ret (v := .tuple #[.int .i64 0, .int .i64 0, .int .i64 3]) (by simp [results, Tryd.results43, go_sem]) rfl ⟨.inr (.inl ⟨NS.out, F.out, rfl⟩), B1.out⟩
          · have h5' : ¬ (1000 : Int) < (v : Int) := by omega
            have h6 : v ≤ 1000 := by omega
            generalize hm : (numB v).length = m at *
            have HM := Lib.hid hm
            clear hm
            go_wp2
            exact bodyPost_ret (v := .tuple #[.int .i64 v, .int .i64 m, .int .i64 0]) (by simp [results, Tryd.results43, go_sem]) rfl ⟨.inr (.inr ⟨NS.out, v, q, HR.out, h6, by rw [HM.out]⟩), B1.out⟩
      · have h3' : ((s.size : Int) == 1) = false := by simp; omega
        clear h1
        go_enter Tryd.func43, Tryd.ntmps43
        go_wp2_with fail
        refine (A.out _ (by omega) _).mono ?_
        rintro e w1 ⟨rfl, b1⟩
        have B1 := Lib.hid b1
        clear b1 A
        cases hR : rdN 2 s.data.toList with
        | none =>
          rw [(ah_none (two_none hR)).1, (ah_none (two_none hR)).2]
          have F : Hid (∀ n q, rdN 2 s.data.toList = some (n, q) → 1000 < n) := fun n q h => by rw [hR] at h; cases h
          clear hR
          go_wp2
          exact bodyPost_ret (v := .tuple #[.int .i64 0, .int .i64 0, .int .i64 3]) (by simp [results, Tryd.results43, go_sem]) rfl ⟨.inr (.inl ⟨NS.out, F.out, rfl⟩), B1.out⟩
        | some pr =>
          obtain ⟨v, q⟩ := pr
          obtain ⟨q', hq'⟩ := two_some hR
          rw [(ah_some hq').1, (ah_some hq').2]
          have hv := rdN_lt hR
          have hn : 1 ≤ (numB v).length := by
            cases e : numB v with
            | nil => exact absurd e (numB_ne v)
            | cons a r => simp
          have hn2 : (numB v).length ≤ 2 := (rdN_some _ _ _ _ hR).2
          have hz : (((numB v).length : Int) == 0) = false := by rw [beq_eq_false_iff_ne]; omega
          have HR := Lib.hid hR
          clear hR hq'
          by_cases h5 : 1000 < v
          · have h5' : (1000 : Int) < (v : Int) := by omega
            have F : Hid (∀ n q, rdN 2 s.data.toList = some (n, q) → 1000 < n) := fun n q h => by
              rw [HR.out] at h; simp only [Option.some.injEq, Prod.mk.injEq] at h; omega
            generalize (numB v).length = m at *
            go_wp2
            exact bodyPost_ret (v := .tuple #[.int .i64 0, .int .i64 0, .int .i64 3]) (by simp [results, Tryd.results43, go_sem]) rfl ⟨.inr (.inl ⟨NS.out, F.out, rfl⟩), B1.out⟩
          · have h5' : ¬ (1000 : Int) < (v : Int) := by omega
            have h6 : v ≤ 1000 := by omega
            generalize hm : (numB v).length = m at *
            have HM := Lib.hid hm
            clear hm
            go_wp2
            exact bodyPost_ret (v := .tuple #[.int .i64 v, .int .i64 m, .int .i64 0]) (by simp [results, Tryd.results43, go_sem]) rfl ⟨.inr (.inr ⟨NS.out, v, q, HR.out, h6, by rw [HM.out]⟩), B1.out⟩

set_option maxRecDepth 100000 in
set_option maxHeartbeats 1000000 in
theorem sumIn_any (s : ByteArray) (hs : s.size = 4) (w : World) :
    Calls Tryd.prog 44 #[.string s] w fun e w' => ∃ x : Nat, e = .returned (.int .i64 x) ∧ x < 4294967296 ∧ s.data.toList = fourB x ∧ w' = w := by
  have h0 : 0 < s.size := by omega
  have h1 : 1 < s.size := by omega
  have h2 : 2 < s.size := by omega
  have h3 : 3 < s.size := by omega
  have hl : s.data.toList = [s[0]'h0, s[1]'h1, s[2]'h2, s[3]'h3] := by
    have e4 : s.data.toList.drop (3 + 1) = [] := List.drop_of_length_le (by have : s.data.toList.length = s.size := by simp
                                                                            omega)
    have e0 := drop_cons s 0 h0
    rw [drop_cons s 1 h1, drop_cons s 2 h2, drop_cons s 3 h3, e4] at e0
    exact e0
  have l0 := (s[0]'h0).toNat_lt
  have l1 := (s[1]'h1).toNat_lt
  have l2 := (s[2]'h2).toNat_lt
  have l3 := (s[3]'h3).toNat_lt
  have F : Hid (s.data.toList = fourB ((((s[0]'h0).toNat * 256 + (s[1]'h1).toNat) * 256 + (s[2]'h2).toNat) * 256 + (s[3]'h3).toNat)) := by
    show _ = _
    rw [hl]
    unfold fourB
    congr 1
    · exact u8_eq (by omega)
    congr 1
    · exact u8_eq (by omega)
    congr 1
    · exact u8_eq (by omega)
    congr 1
    · exact u8_eq (by omega)
  have i0 : ((s[0]'h0).toNat : Int) < 256 := by omega
  have i1 : ((s[1]'h1).toNat : Int) < 256 := by omega
  have i2 : ((s[2]'h2).toNat : Int) < 256 := by omega
  have i3 : ((s[3]'h3).toNat : Int) < 256 := by omega
  have hs' : (s.size : Int) = 4 := by omega
  clear hl
  go_enter Tryd.func44, Tryd.ntmps44
  go_wp2
  refine wp_loop_rounds 5 ?_
  rw [rounds_succ]
  go_wp2
  rw [rounds_succ]
  go_wp2
  rw [rounds_succ]
  go_wp2
  rw [rounds_succ]
  go_wp2
  rw [rounds_succ]
  go_wp2
  go_ret
  exact ⟨(((s[0]'h0).toNat * 256 + (s[1]'h1).toNat) * 256 + (s[2]'h2).toNat) * 256 + (s[3]'h3).toNat, by simp, by omega, F.out, rfl⟩

end Go.Proofs.YtnkdkbchendpmaaDoor
