/-
  READING MONEY, AS THE PROGRAM DOES: it is held against the one text that it has.
-/
import Derived.Test.YtcganhhnkidddaaDoorRa
import Derived.Test.YtcganhhnkidddaaDoorTb
import Derived.Test.YtcganhhnkidddaaDoorMb
namespace Go.Proofs.YtcganhhnkidddaaDoor
open Go.RowKit
set_option linter.unusedVariables false

def goodT (t : List UInt8) : Prop := isM (vOf t) = true ∧ mtextI (vOf t) = t
noncomputable def rdV (t : List UInt8) : Int := open Classical in if t.length ≤ 20000 ∧ goodT t then vOf t else 0
noncomputable def rdC (t : List UInt8) : Int := open Classical in if 20000 < t.length then 2 else if goodT t then 0 else 3
theorem rd_long {t : List UInt8} (h : 20000 < t.length) : rdV t = 0 ∧ rdC t = 2 := by
  unfold rdV rdC; rw [if_neg (by omega), if_pos h]; exact ⟨rfl, rfl⟩
theorem rd_bad {t : List UInt8} (h : t.length ≤ 20000) (hg : ¬ goodT t) : rdV t = 0 ∧ rdC t = 3 := by
  unfold rdV rdC; rw [if_neg (fun x => hg x.2), if_neg (by omega), if_neg hg]; exact ⟨rfl, rfl⟩
theorem rd_good {t : List UInt8} (h : t.length ≤ 20000) (hg : goodT t) : rdV t = vOf t ∧ rdC t = 0 := by
  unfold rdV rdC; rw [if_pos ⟨h, hg⟩, if_neg (by omega), if_pos hg]; exact ⟨rfl, rfl⟩
theorem dec_len (u : Nat) (h : u ≤ 10000000000) : 1 ≤ (Lib.decDigits u).length ∧ (Lib.decDigits u).length ≤ 11 := by
  rw [Lib.decDigits_length]
  by_cases h0 : u < 10
  · rw [Lib.nDigits_small h0]; decide
  · have hp : ∀ k n : Nat, n < 10 ^ (k + 1) → Lib.nDigits n ≤ k + 1 := by
      intro k
      induction k with
      | zero => intro n hn; rw [Lib.nDigits_small (by simpa using hn)]; decide
      | succ k ih =>
        intro n hn
        rw [Lib.nDigits]
        split
        · omega
        · have := ih (n / 10) (by rw [Nat.pow_succ] at hn; exact Nat.div_lt_of_lt_mul (by omega))
          omega
    refine ⟨?_, hp 10 u (by omega)⟩
    rw [Lib.nDigits]; split <;> omega
theorem mtext_len (v : Int) (h : isM v = true) : 4 ≤ (mtextI v).length ∧ (mtextI v).length ≤ 15 := by
  have hm := isM_t h
  have := dec_len (mag v / 100).toNat (by unfold mag; omega)
  unfold mtextI
  simp only [List.length_append, List.length_cons, List.length_nil]
  split <;> simp <;> omega
theorem good_len {t : List UInt8} (h : goodT t) : 4 ≤ t.length ∧ t.length ≤ 15 := by
  have := mtext_len _ h.1; rwa [h.2] at this
theorem ba_list {s : ByteArray} {l : List UInt8} : (⟨l.toArray⟩ : ByteArray) = s ↔ l = s.data.toList := by
  constructor
  · rintro rfl; simp
  · rintro rfl; rfl
theorem head_ba (s : ByteArray) (h : 0 < s.size) : s.data.toList.head? = some s[0] := by
  rw [List.head?_eq_getElem?, List.getElem?_eq_getElem (by simpa using h)]; rfl

/-- What is told of a number is the text just if the text is good, where the number is the text's. -/
theorem told_good (s : ByteArray) (hs : 0 < s.size) : ((⟨(if isM (vOf s.data.toList) then mtextI (vOf s.data.toList) else []).toArray⟩ : ByteArray) = s) ↔ goodT s.data.toList := by
  rw [ba_list]
  unfold goodT
  split
  · rename_i h; simp [h]
  · rename_i h
    constructor
    · intro e; have : s.data.toList.length = 0 := by rw [← e]; rfl
      have e2 : s.data.toList.length = s.size := by simp
      omega
    · intro e; exact absurd e.1 h

theorem M_eq {a b c d : Int} (h : a = c) (k : b = d) : Ending.returned (M a b) = .returned (M c d) := by rw [h, k]

set_option maxHeartbeats 1000000 in
theorem ird_any (s : ByteArray) (hz : s.size ≤ maxLen) (w : World) (ht : PowTab w) :
    Calls Tryd.prog 8 #[.string s] w fun e w' => e = .returned (M (rdV s.data.toList) (rdC s.data.toList)) ∧ Below w.heap.size w w' := by
  have hlen : s.data.toList.length = s.size := by simp
  by_cases h1 : s.size > 20000
  · have hr := rd_long (t := s.data.toList) (by omega)
    rw [hr.1, hr.2]; clear hr ht hlen
    go_enter Tryd.func8, Tryd.ntmps8
    go_wp2
    exact bodyPost_ret (v := M 0 2) (by simp [results, Tryd.results8, go_sem, M]) rfl ⟨rfl, bA0 _ _⟩
  · by_cases h2 : s.size = 0
    · have hr := rd_bad (t := s.data.toList) (by omega) (fun h => by have := good_len h; omega)
      rw [hr.1, hr.2]; clear hr ht
      have e : s = ⟨#[]⟩ := by
        have : s.data.toList = [] := List.eq_nil_of_length_eq_zero (by omega)
        rw [← ba_list.2 this.symm]
      subst e
      clear hlen
      go_enter Tryd.func8, Tryd.ntmps8
      go_wp2
      exact bodyPost_ret (v := M 0 3) (by simp [results, Tryd.results8, go_sem, M]) rfl ⟨rfl, bA0 _ _⟩
    · have HN : s.toList.isEmpty = false := by
        rw [Go.ByteArray.toList_eq]
        cases e : s.data.toList with
        | nil => rw [e] at hlen; simp at hlen; omega
        | cons a r => rfl
      by_cases h3 : s.size > 15
      · have hr := rd_bad (t := s.data.toList) (by omega) (fun h => by have := good_len h; omega)
        rw [hr.1, hr.2]; clear hr ht hlen
        go_enter Tryd.func8, Tryd.ntmps8
        go_wp2
        all_goals exact bodyPost_ret (v := M 0 3) (by simp [results, Tryd.results8, go_sem, M]) rfl ⟨rfl, bA0 _ _⟩
      · have HD : Hid (∀ w, Calls Tryd.prog 18 #[.string s] w fun e w' => e = .returned (.int .i64 (dv s.data.toList)) ∧ w' = w) := fun w => digits_any s w (by omega)
        have hd := dv_small s.data.toList (by omega)
        obtain ⟨d0, d1⟩ := hd
        have HT : Hid (∀ w1, Below w.heap.size w w1 → Calls Tryd.prog 7 #[.int .i64 (vOf s.data.toList)] w1 fun e w' => e = .returned (.string ⟨(if isM (vOf s.data.toList) then mtextI (vOf s.data.toList) else []).toArray⟩) ∧ Below w1.heap.size w1 w') := fun w1 hb => imt_any _ w1 (ht.below hb)
        have hg := told_good s (by omega)
        generalize hx : (⟨(if isM (vOf s.data.toList) then mtextI (vOf s.data.toList) else []).toArray⟩ : ByteArray) = x at HT hg
        clear hx ht
        have hp : 0 < s.size := Nat.pos_of_ne_zero h2
        by_cases h45 : (s[0]'hp).toNat = 45
        · have hv : vOf s.data.toList = -dv s.data.toList := by
            unfold vOf; rw [head_ba s hp, if_pos]
            exact congrArg some (UInt8.toNat_inj.1 h45)
          by_cases hq : x = s
          · have hr := rd_good (t := s.data.toList) (by omega) (hg.1 hq)
            rw [hr.1, hr.2]
            rw [hv] at HT ⊢
            clear hr hg hv
            subst hq
            generalize dv x.data.toList = d at *
            go_enter Tryd.func8, Tryd.ntmps8
            go_wp2_with (first | (go_at_call 18; refine (HD.out _).mono ?_; rintro e w' ⟨rfl, rfl⟩) | fail)
            have ew : IntKind.i64.wrap (-d) = -d := wrapI _ (by omega)
            try rw [ew]
            refine (HT.out _ (bA0 _ _)).mono ?_
            rintro e w1 ⟨rfl, hb⟩
            obtain ⟨hc, hf⟩ := bcell hb; have hz2 := hb.size; simp at hz2
            go_wp2_with fail
            refine bodyPost_ret (v := M (-d) 0) (by simp [results, Tryd.results8, go_sem, hc, M]) rfl ⟨rfl, ?_⟩
            exact ((bT (bA0 _ _) hb).setCell (Nat.le_refl _) _).setCell (Nat.le_refl _) _
          · have hr := rd_bad (t := s.data.toList) (by omega) (fun h => hq (hg.2 h))
            rw [hr.1, hr.2]
            rw [hv] at HT
            clear hr hg hv
            have HQ : (x.toList == s.toList) = false := by
              rw [beq_eq_false_iff_ne, Go.ByteArray.toList_eq, Go.ByteArray.toList_eq]; exact fun e => hq (Go.WideShapes.bytes_inj e)
            generalize dv s.data.toList = d at *
            go_enter Tryd.func8, Tryd.ntmps8
            go_wp2_with (first | (go_at_call 18; refine (HD.out _).mono ?_; rintro e w' ⟨rfl, rfl⟩) | fail)
            have ew : IntKind.i64.wrap (-d) = -d := wrapI _ (by omega)
            try rw [ew]
            refine (HT.out _ (bA0 _ _)).mono ?_
            rintro e w1 ⟨rfl, hb⟩
            obtain ⟨hc, hf⟩ := bcell hb; have hz2 := hb.size; simp at hz2
            go_wp2_with fail
            refine bodyPost_ret (v := M 0 3) (by simp [results, Tryd.results8, go_sem, hc, M]) rfl ⟨rfl, ?_⟩
            exact ((bT (bA0 _ _) hb).setCell (Nat.le_refl _) _).setCell (Nat.le_refl _) _
        · have hv : vOf s.data.toList = dv s.data.toList := by
            unfold vOf; rw [head_ba s hp, if_neg]
            intro e; exact h45 (by rw [Option.some.inj e]; rfl)
          by_cases hq : x = s
          · have hr := rd_good (t := s.data.toList) (by omega) (hg.1 hq)
            rw [hr.1, hr.2]
            rw [hv] at HT ⊢
            clear hr hg hv
            subst hq
            generalize dv x.data.toList = d at *
            go_enter Tryd.func8, Tryd.ntmps8
            go_wp2_with (first | (go_at_call 18; refine (HD.out _).mono ?_; rintro e w' ⟨rfl, rfl⟩) | fail)
            refine (HT.out _ (bA0 _ _)).mono ?_
            rintro e w1 ⟨rfl, hb⟩
            obtain ⟨hc, hf⟩ := bcell hb; have hz2 := hb.size; simp at hz2
            go_wp2_with fail
            refine bodyPost_ret (v := M d 0) (by simp [results, Tryd.results8, go_sem, hc, M]) rfl ⟨rfl, ?_⟩
            exact ((bT (bA0 _ _) hb).setCell (Nat.le_refl _) _).setCell (Nat.le_refl _) _
          · have hr := rd_bad (t := s.data.toList) (by omega) (fun h => hq (hg.2 h))
            rw [hr.1, hr.2]
            rw [hv] at HT
            clear hr hg hv
            have HQ : (x.toList == s.toList) = false := by
              rw [beq_eq_false_iff_ne, Go.ByteArray.toList_eq, Go.ByteArray.toList_eq]; exact fun e => hq (Go.WideShapes.bytes_inj e)
            generalize dv s.data.toList = d at *
            go_enter Tryd.func8, Tryd.ntmps8
            go_wp2_with (first | (go_at_call 18; refine (HD.out _).mono ?_; rintro e w' ⟨rfl, rfl⟩) | fail)
            refine (HT.out _ (bA0 _ _)).mono ?_
            rintro e w1 ⟨rfl, hb⟩
            obtain ⟨hc, hf⟩ := bcell hb; have hz2 := hb.size; simp at hz2
            go_wp2_with fail
            refine bodyPost_ret (v := M 0 3) (by simp [results, Tryd.results8, go_sem, hc, M]) rfl ⟨rfl, ?_⟩
            exact ((bT (bA0 _ _) hb).setCell (Nat.le_refl _) _).setCell (Nat.le_refl _) _

end Go.Proofs.YtcganhhnkidddaaDoor
