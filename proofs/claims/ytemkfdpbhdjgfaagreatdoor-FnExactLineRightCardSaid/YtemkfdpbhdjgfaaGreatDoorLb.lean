/-
  NUMBERS IN TEXTS AND TEXTS SPLIT: as lists of bytes.
-/
import Derived.Test.YtemkfdpbhdjgfaaGreatDoorLa
namespace Go.Proofs.YtemkfdpbhdjgfaaGreatDoor
open Go.RowKit Go.Lib
set_option linter.unusedVariables false

/-- A digit. -/
def isDig (b : UInt8) : Bool := decide (48 ≤ (b.toNat : Int) ∧ (b.toNat : Int) ≤ 57)
def dvS (s : Int) (b : UInt8) : Int := 10 * s + ((b.toNat : Int) - 48)
/-- The number that digits tell. -/
def dv (l : List UInt8) : Int := l.foldl dvS 0
theorem dv_snoc (l : List UInt8) (b : UInt8) : dv (l ++ [b]) = dvS (dv l) b := by simp [dv]
theorem dv_bd (l : List UInt8) (hd : l.all isDig = true) : 0 ≤ dv l ∧ dv l < 10 ^ l.length := by
  have key : ∀ n, ∀ l : List UInt8, l.length = n → l.all isDig = true → 0 ≤ dv l ∧ dv l < 10 ^ l.length := by
    intro n
    induction n with
    | zero => intro l hl _; have : l = [] := List.eq_nil_of_length_eq_zero hl; subst this; simp [dv]
    | succ n ih =>
      intro l hl hd
      obtain ⟨a, b, rfl⟩ : ∃ a b, l = a ++ [b] := ⟨l.dropLast, l.getLast (by intro h; simp [h] at hl), (List.dropLast_concat_getLast _).symm⟩
      rw [List.all_append] at hd
      simp only [Bool.and_eq_true, List.all_cons, List.all_nil, Bool.and_true, isDig, decide_eq_true_eq] at hd
      have h := ih a (by simpa using hl) hd.1
      rw [dv_snoc, List.length_append, List.length_singleton, Int.pow_succ]
      unfold dvS
      omega
  exact key l.length l rfl hd
theorem dv_small (l : List UInt8) (hd : l.all isDig = true) (h : l.length ≤ 15) : 0 ≤ dv l ∧ dv l < 1000000000000000 := by
  have := dv_bd l hd
  refine ⟨this.1, Int.lt_of_lt_of_le this.2 ?_⟩
  have h2 : 10 ^ l.length ≤ 10 ^ 15 := Nat.pow_le_pow_right (by decide) h
  have h3 : ((10 ^ l.length : Nat) : Int) ≤ ((10 ^ 15 : Nat) : Int) := Int.ofNat_le.2 h2
  have e : ((10 ^ l.length : Nat) : Int) = (10 : Int) ^ l.length := by simp
  rw [← e]; exact h3
theorem dig_nat (u : Nat) (h : u < 10) : ((UInt8.ofNat (48 + u)).toNat : Int) = 48 + (u : Int) := by
  simp [UInt8.toNat_ofNat']; omega
theorem dvS_dig (s : Int) (u : Nat) (h : u < 10) : dvS s (UInt8.ofNat (48 + u)) = 10 * s + u := by
  unfold dvS
  rw [dig_nat u h]; omega
theorem dv_dec : ∀ (n u : Nat), u ≤ n → dv (Lib.decDigits u) = u := by
  intro n
  induction n with
  | zero =>
    intro u hu
    have : u = 0 := by omega
    subst this
    rw [Lib.decDigits_one (by decide)]; rfl
  | succ n ih =>
    intro u hu
    rw [Lib.decDigits]
    split
    · rename_i h
      show dvS 0 _ = _
      rw [dvS_dig 0 u h]; omega
    · rename_i h
      rw [dv_snoc, ih (u / 10) (by omega), dvS_dig _ _ (by omega)]
      omega
theorem dec_dig : ∀ (n u : Nat), u ≤ n → (Lib.decDigits u).all isDig = true := by
  intro n
  induction n with
  | zero =>
    intro u hu
    have : u = 0 := by omega
    subst this
    rw [Lib.decDigits_one (by decide)]; decide
  | succ n ih =>
    intro u hu
    rw [Lib.decDigits]
    split
    · rename_i h
      simp only [List.all_cons, List.all_nil, Bool.and_true, isDig, dig_nat u h, decide_eq_true_eq]; omega
    · rename_i h
      rw [List.all_append, ih (u / 10) (by omega)]
      simp only [List.all_cons, List.all_nil, Bool.and_true, Bool.true_and, isDig, dig_nat (u % 10) (by omega), decide_eq_true_eq]; omega
theorem dec_nil (u : Nat) : Lib.decDigits u ≠ [] := by
  rw [Lib.decDigits]
  split
  · simp
  · simp
theorem dec_head (u : Nat) : (Lib.decDigits u).head? ≠ some 45 := by
  intro h
  have h2 := dec_dig u u (Nat.le_refl _)
  cases e : Lib.decDigits u with
  | nil => simp [e] at h
  | cons a r =>
    rw [e] at h h2
    simp only [List.head?_cons, Option.some.injEq] at h
    subst h
    simp [isDig] at h2
theorem dec_lo : ∀ (n u : Nat), u ≤ n → 1 ≤ u → 10 ^ ((Lib.decDigits u).length - 1) ≤ u := by
  intro n
  induction n with
  | zero => intro u hu h1; omega
  | succ n ih =>
    intro u hu h1
    rw [Lib.decDigits]
    split
    · rename_i h
      simpa using h1
    · rename_i h
      have h2 := ih (u / 10) (by omega) (by omega)
      have h3 : 1 ≤ (Lib.decDigits (u / 10)).length := by
        cases e : Lib.decDigits (u / 10) with
        | nil => exact absurd e (dec_nil _)
        | cons a r => simp
      rw [List.length_append, List.length_singleton]
      rw [show (Lib.decDigits (u / 10)).length + 1 - 1 = ((Lib.decDigits (u / 10)).length - 1) + 1 by omega, Nat.pow_succ]
      omega
theorem dec_len15 (u : Nat) (h : u < 1000000000000000) : (Lib.decDigits u).length ≤ 15 := by
  by_cases h0 : u = 0
  · subst h0; rw [Lib.decDigits_one (by decide)]; decide
  · have h2 := dec_lo u u (Nat.le_refl _) (by omega)
    by_cases h3 : (Lib.decDigits u).length ≤ 15
    · exact h3
    · have h4 : 10 ^ 15 ≤ 10 ^ ((Lib.decDigits u).length - 1) := Nat.pow_le_pow_right (by decide) (by omega)
      omega
/-- Is there a sign? -/
def negT (t : List UInt8) : Bool := t.head? == some 45
def digT (t : List UInt8) : List UInt8 := if negT t then t.tail else t
def numF (t : List UInt8) : Bool := decide (1 ≤ (digT t).length ∧ (digT t).length ≤ 15) && (digT t).all isDig
/-- What l01Num tells: the number, and if it is so told. -/
def numV (t : List UInt8) : Int := if numF t then (if negT t then -dv (digT t) else dv (digT t)) else 0
def numK (t : List UInt8) : Bool := numF t && (Lib.itoa (numV t) == t)
theorem itoa_neg {n : Int} (h : n < 0) : Lib.itoa n = 45 :: Lib.decDigits n.natAbs := if_pos h
theorem itoa_pos {n : Int} (h : ¬ n < 0) : Lib.itoa n = Lib.decDigits n.toNat := if_neg h
theorem num_itoa (n : Int) (h : -1000000000000000 < n ∧ n < 1000000000000000) : numF (Lib.itoa n) = true ∧ numV (Lib.itoa n) = n := by
  by_cases h0 : n < 0
  · have hn : negT (Lib.itoa n) = true := by rw [itoa_neg h0]; rfl
    have hd : digT (Lib.itoa n) = Lib.decDigits n.natAbs := by unfold digT; rw [hn, itoa_neg h0]; rfl
    have hl := dec_len15 n.natAbs (by omega)
    have hz : 1 ≤ (Lib.decDigits n.natAbs).length := by
      cases e : Lib.decDigits n.natAbs with
      | nil => exact absurd e (dec_nil _)
      | cons a r => simp
    have hf : numF (Lib.itoa n) = true := by
      unfold numF
      rw [hd, dec_dig _ _ (Nat.le_refl _)]
      simp [hl, hz]
    refine ⟨hf, ?_⟩
    unfold numV
    rw [hf, hn, hd, dv_dec _ _ (Nat.le_refl _)]
    simp only [if_true]
    omega
  · have hn : negT (Lib.itoa n) = false := by
      unfold negT
      rw [itoa_pos h0]
      have := dec_head n.toNat
      simpa using this
    have hd : digT (Lib.itoa n) = Lib.decDigits n.toNat := by unfold digT; rw [hn, itoa_pos h0]; rfl
    have hl := dec_len15 n.toNat (by omega)
    have hz : 1 ≤ (Lib.decDigits n.toNat).length := by
      cases e : Lib.decDigits n.toNat with
      | nil => exact absurd e (dec_nil _)
      | cons a r => simp
    have hf : numF (Lib.itoa n) = true := by
      unfold numF
      rw [hd, dec_dig _ _ (Nat.le_refl _)]
      simp [hl, hz]
    refine ⟨hf, ?_⟩
    unfold numV
    rw [hf, hn, hd, dv_dec _ _ (Nat.le_refl _)]
    simp only [if_true, Bool.false_eq_true, if_false]
    omega
theorem numV_bd (t : List UInt8) : -1000000000000000 < numV t ∧ numV t < 1000000000000000 := by
  unfold numV
  by_cases h : numF t = true
  · have h' := h
    unfold numF at h'
    simp only [Bool.and_eq_true, decide_eq_true_eq] at h'
    have := dv_small (digT t) h'.2 h'.1.2
    rw [h]
    simp only [if_true]
    split <;> omega
  · rw [Bool.not_eq_true] at h
    rw [h]
    simp
/-- A text is a number's, just if it is that number told. -/
theorem numK_iff (t : List UInt8) : numK t = true ↔ ∃ n : Int, (-1000000000000000 < n ∧ n < 1000000000000000) ∧ t = Lib.itoa n := by
  unfold numK
  rw [Bool.and_eq_true, beq_iff_eq]
  constructor
  · rintro ⟨_, h⟩
    exact ⟨numV t, numV_bd t, h.symm⟩
  · rintro ⟨n, hn, rfl⟩
    have := num_itoa n hn
    exact ⟨this.1, by rw [this.2]⟩

/-- A text split at a byte: what is done, and what has begun. -/
def spS (c : UInt8) (s : List (List UInt8) × List UInt8) (b : UInt8) : List (List UInt8) × List UInt8 := if b = c then (s.1 ++ [s.2], []) else (s.1, s.2 ++ [b])
def spF (c : UInt8) (t : List UInt8) : List (List UInt8) × List UInt8 := t.foldl (spS c) ([], [])
def splitL (c : UInt8) (t : List UInt8) : List (List UInt8) := (spF c t).1 ++ [(spF c t).2]
theorem spF_snoc (c : UInt8) (t : List UInt8) (b : UInt8) : spF c (t ++ [b]) = spS c (spF c t) b := by simp [spF]
theorem sp_none (c : UInt8) (t : List UInt8) : ∀ s, c ∉ t → t.foldl (spS c) s = (s.1, s.2 ++ t) := by
  induction t with
  | nil => intro s _; simp
  | cons b r ih =>
    intro s h
    have hb : ¬ b = c := fun e => h (by simp [e])
    have hr : c ∉ r := fun e => h (by simp [e])
    rw [List.foldl_cons, ih _ hr]
    unfold spS
    rw [if_neg hb]
    simp
theorem sp_from (c : UInt8) (t : List UInt8) : ∀ d, t.foldl (spS c) (d, []) = (d ++ (spF c t).1, (spF c t).2) := by
  have key : ∀ (t : List UInt8) (d : List (List UInt8)) (e : List (List UInt8)) (x : List UInt8), t.foldl (spS c) (d ++ e, x) = (d ++ (t.foldl (spS c) (e, x)).1, (t.foldl (spS c) (e, x)).2) := by
    intro t
    induction t with
    | nil => intro d e x; rfl
    | cons b r ih =>
      intro d e x
      rw [List.foldl_cons, List.foldl_cons]
      unfold spS
      by_cases h : b = c
      · simp only [if_pos h]
        have := ih d (e ++ [x]) []
        rw [← List.append_assoc] at this
        exact this
      · simp only [if_neg h]
        exact ih d e (x ++ [b])
  intro d
  have := key t d [] []
  rwa [List.append_nil] at this
/-- The first piece, and the rest. -/
theorem split_cons (c : UInt8) (a r : List UInt8) (h : c ∉ a) : splitL c (a ++ c :: r) = a :: splitL c r := by
  have e : spF c (a ++ c :: r) = ([a] ++ (spF c r).1, (spF c r).2) := by
    unfold spF
    rw [List.foldl_append, sp_none c a _ h, List.foldl_cons]
    rw [show spS c ((([] : List (List UInt8)), ([] : List UInt8)).1, (([] : List (List UInt8)), ([] : List UInt8)).2 ++ a) c = ([a], []) by simp [spS]]
    exact sp_from c r [a]
  unfold splitL
  rw [e]
  rfl
theorem split_one (c : UInt8) (a : List UInt8) (h : c ∉ a) : splitL c a = [a] := by
  unfold splitL spF
  rw [sp_none c a _ h]
  simp
theorem split_len (c : UInt8) (t : List UInt8) : 1 ≤ (splitL c t).length ∧ (splitL c t).length ≤ t.length + 1 := by
  have : ∀ (t : List UInt8) (s : List (List UInt8) × List UInt8), (t.foldl (spS c) s).1.length ≤ s.1.length + t.length := by
    intro t
    induction t with
    | nil => intro s; simp
    | cons b r ih =>
      intro s
      rw [List.foldl_cons]
      have h1 := ih (spS c s b)
      have h2 : (spS c s b).1.length ≤ s.1.length + 1 := by unfold spS; split <;> simp
      simp only [List.length_cons]
      omega
  have h := this t ([], [])
  unfold splitL spF
  rw [List.length_append]
  simp only [List.length_singleton, List.length_nil] at h ⊢
  omega

end Go.Proofs.YtemkfdpbhdjgfaaGreatDoor
