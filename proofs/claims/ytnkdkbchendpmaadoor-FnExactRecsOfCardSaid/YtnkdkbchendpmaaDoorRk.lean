/-
  A RECORD READ, AS THE MODEL DOES IT: at every text.
-/
import Derived.Test.YtnkdkbchendpmaaDoorRj
namespace Go.Proofs.YtnkdkbchendpmaaDoor
open Go.RowKit
set_option linter.unusedVariables false

set_option maxRecDepth 100000 in
set_option maxHeartbeats 1000000 in
theorem sr_two (s : ByteArray) (r : List UInt8) (hd : s.data.toList = 82 :: r) (h2 : s.size = 2) (h1 : 1 < s.size) (hb : (s[1]'h1).toNat < 128) (w : World) :
    Calls Tryd.prog 51 #[.string s] w fun e w' => RdPost (82 :: r) w e w' := by
  have hlen : s.data.toList.length = s.size := by simp
  have hp : 0 < s.size := by omega
  have hp' : (0 : Int) < (s.size : Int) := by omega
  have hp1 : (1 : Int) ≤ (s.size : Int) := by omega
  have hp2 : (1 : Int) < (s.size : Int) := by omega
  have h1' : ((s.size : Int) == 0) = false := by rw [beq_eq_false_iff_ne]; omega
  have h2' : ((s.size : Int) == 1) = false := by rw [beq_eq_false_iff_ne]; omega
  have h3' : ((s.size : Int) == 2) = true := by rw [h2]; rfl
  have h4' : ¬ (128 : Int) ≤ ((s[1]'h1).toNat : Int) := by omega
  have h82 : (s[0]'hp) = 82 := by
    have := drop_cons s 0 hp
    simp only [List.drop_zero, hd, List.cons.injEq] at this
    exact this.1.symm
  have e82 : ((s[0]'hp).toNat : Int) = 82 := by rw [h82]; rfl
  have er : r = [s[1]'h1] := by
    have := drop_cons s 1 h1
    rw [hd, List.drop_succ_cons, List.drop_zero, List.drop_succ_cons] at this
    rw [this]
    congr 1
    have hr : r.length = 1 := by rw [hd] at hlen; simp at hlen; omega
    exact List.drop_of_length_le (by omega)
  have eR : (s.extract 1 s.size).data.toList = r := by
    rw [Lib.extract_data, hd]
    simp only [List.drop_succ_cons, List.drop_zero]
    exact List.take_of_length_le (by rw [hd] at hlen; simp at hlen; omega)
  have hS : ¬ Short r := by
    rw [er]
    rintro (h | ⟨y, h, hy⟩)
    · cases h
    · simp only [List.cons.injEq, and_true] at h
      rw [← h] at hy; omega
  have R8 : rdN 8 r = some ((s[1]'h1).toNat, []) := by rw [er]; exact rdN_byte 7 _ _ hb
  have R2 : rdN 2 r = some ((s[1]'h1).toNat, []) := by rw [er]; exact rdN_byte 1 _ _ hb
  have F := Lib.hid (rdF_cut (by rw [er]; simp) hS R2 (by omega) (by simp))
  have D0 := Lib.hid (MD.new w (s.extract 1 s.size))
  have NU := Lib.hid (num_s (w.heap.size + 1) (s.extract 1 s.size) false _ (by simp; omega) D0.out.n)
  have ER := Lib.hid eR
  have HR8 := Lib.hid R8
  clear eR hd hlen h82 hS er R8 R2 h2
  go_enter Tryd.func51, Tryd.ntmps51
  go_wp2_with fail
  refine NU.out.mono ?_
  rintro e w1 ⟨x, t1, bad1, rfl, hx, hN, ht1, hsome, hnone, -, ho⟩
  have D1 := Lib.hid (D0.out.num ho hN)
  rw [ER.out] at hsome hnone
  clear hN ho NU D0 hnone
  obtain ⟨n0, n1, nf, nl⟩ := D1.out.n.cells
  obtain ⟨c0, c1, c2, c3, cf, cl⟩ := D1.out.q.cells
  obtain ⟨hx1, hq, rfl⟩ := hsome _ _ HR8.out
  have hx0 : (0 : Int) ≤ (x : Int) := by omega
  have hn' : ¬ (1000 : Int) < (x : Int) := by omega
  have hz : t1.size = 0 := by have : t1.data.toList.length = 0 := by rw [hq]; rfl
                              simpa using this
  have hq' : (t1.size : Int) < (x : Int) + 4 := by omega
  clear hsome hq hx1
  go_wp2
  exact bodyPost_ret (v := RO 0 (.slice none 0 0) 0 6) (by simp [results, Tryd.results51, go_sem, c0, c1, c2, c3]) rfl (.inr ⟨F.out.2, by rw [F.out.1], b4 D1.out.low _ _ _ _⟩)

/-- l02Read, at every text that is not too long. -/
theorem sr_any (s : ByteArray) (hs : s.size ≤ 20000) (w : World) : Calls Tryd.prog 51 #[.string s] w fun e w' => RdPost s.data.toList w e w' := by
  have hlen : s.data.toList.length = s.size := by simp
  by_cases hd : s.data.toList.head? = some 82
  · obtain ⟨r, hr⟩ : ∃ r, s.data.toList = 82 :: r := by
      cases e : s.data.toList with
      | nil => rw [e] at hd; cases hd
      | cons a r => rw [e] at hd; simp at hd; exact ⟨r, by rw [hd]⟩
    have hl : r.length + 1 = s.size := by rw [hr] at hlen; simpa using hlen
    have hp : 0 < s.size := by omega
    have e0 : (s[0]'hp) = 82 := by
      have := drop_cons s 0 hp
      simp only [List.drop_zero, hr, List.cons.injEq] at this
      exact this.1.symm
    have e82 : ((s[0]'hp).toNat : Int) = 82 := by rw [e0]; rfl
    by_cases h3 : 2 < s.size
    · rw [hr]; exact sr_main s r hs hr h3 w
    · by_cases h2 : s.size = 2
      · have h1 : 1 < s.size := by omega
        by_cases hb : (s[1]'h1).toNat < 128
        · rw [hr]; exact sr_two s r hr h2 h1 hb w
        · have er : r = [s[1]'h1] := by
            have := drop_cons s 1 h1
            rw [hr, List.drop_succ_cons, List.drop_zero, List.drop_succ_cons] at this
            rw [this, List.drop_of_length_le (by omega)]
          obtain ⟨f1, f2⟩ := rdF_short (r := r) (by omega) (.inr ⟨_, er, by omega⟩)
          refine (sr_short s hp e82 (.inr ⟨h1, h2, by omega⟩) w).mono ?_
          rintro e w' ⟨rfl, hbl⟩
          rw [hr]
          exact .inr ⟨f2, by rw [f1], hbl⟩
      · have er : r = [] := List.eq_nil_of_length_eq_zero (by omega)
        obtain ⟨f1, f2⟩ := rdF_short (r := r) (by omega) (.inl er)
        refine (sr_short s hp e82 (.inl (by omega)) w).mono ?_
        rintro e w' ⟨rfl, hbl⟩
        rw [hr]
        exact .inr ⟨f2, by rw [f1], hbl⟩
  · obtain ⟨f1, f2⟩ := rdF_none (t := s.data.toList) (by omega) hd
    refine (sr_seven s hs hd w).mono ?_
    rintro e w' ⟨rfl, hb⟩
    exact .inr ⟨f2, by rw [f1], hb⟩

end Go.Proofs.YtnkdkbchendpmaaDoor
