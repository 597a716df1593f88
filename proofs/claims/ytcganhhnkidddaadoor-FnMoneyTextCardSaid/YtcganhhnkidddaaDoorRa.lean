/-
  READING DIGITS: what the program reckons out of a short text.
-/
import Derived.Test.YtcganhhnkidddaaDoorTc
namespace Go.Proofs.YtcganhhnkidddaaDoor
open Go.RowKit
set_option linter.unusedVariables false

theorem ret_int {k : IntKind} {a b : Int} (h : a = b) : Ending.returned (.int k a) = .returned (.int k b) := by rw [h]

def isDig (b : UInt8) : Bool := decide (48 ≤ (b.toNat : Int) ∧ (b.toNat : Int) ≤ 57)
def dvS (s : Int) (b : UInt8) : Int := if isDig b then 10 * s + ((b.toNat : Int) - 48) else s
def dv (l : List UInt8) : Int := l.foldl dvS 0

theorem dv_snoc (l : List UInt8) (b : UInt8) : dv (l ++ [b]) = dvS (dv l) b := by simp [dv]
theorem dvS_bd (s : Int) (b : UInt8) (h : 0 ≤ s) : 0 ≤ dvS s b ∧ dvS s b ≤ 10 * s + 9 := by
  unfold dvS isDig
  split
  · rename_i hd; simp at hd; omega
  · omega
theorem dv_bd (l : List UInt8) : 0 ≤ dv l ∧ dv l < 10 ^ l.length := by
  have key : ∀ n, ∀ l : List UInt8, l.length = n → 0 ≤ dv l ∧ dv l < 10 ^ l.length := by
    intro n
    induction n with
    | zero => intro l hl; have : l = [] := List.eq_nil_of_length_eq_zero hl; subst this; simp [dv]
    | succ n ih =>
      intro l hl
      obtain ⟨a, b, rfl⟩ : ∃ a b, l = a ++ [b] := ⟨l.dropLast, l.getLast (by intro h; simp [h] at hl), (List.dropLast_concat_getLast _).symm⟩
      have h := ih a (by simpa using hl)
      rw [dv_snoc, List.length_append, List.length_singleton, Int.pow_succ]
      have := dvS_bd (dv a) b h.1
      omega
  exact key l.length l rfl
theorem dv_small (l : List UInt8) (h : l.length ≤ 15) : 0 ≤ dv l ∧ dv l < 1000000000000000 := by
  have := dv_bd l
  refine ⟨this.1, Int.lt_of_lt_of_le this.2 ?_⟩
  have h2 : 10 ^ l.length ≤ 10 ^ 15 := Nat.pow_le_pow_right (by decide) h
  have h3 : ((10 ^ l.length : Nat) : Int) ≤ ((10 ^ 15 : Nat) : Int) := Int.ofNat_le.2 h2
  have e : ((10 ^ l.length : Nat) : Int) = (10 : Int) ^ l.length := by simp
  rw [← e]; exact h3
theorem take_snoc (s : ByteArray) (k : Nat) (h : k < s.size) : s.data.toList.take (k + 1) = s.data.toList.take k ++ [s[k]] := by
  rw [List.take_succ_eq_append_getElem (by simpa using h)]; rfl

set_option maxHeartbeats 400000 in
theorem digits_any (s : ByteArray) (w : World) (hs : s.size ≤ 15) :
    Calls Tryd.prog 18 #[.string s] w fun e w' => e = .returned (.int .i64 (dv s.data.toList)) ∧ w' = w := by
  go_enter Tryd.func18, Tryd.ntmps18
  go_wp2
  go_loop [3, 7] (fun n i => ∃ k : Nat, k ≤ s.size ∧ i = .int .i64 k ∧ n = .int .i64 (dv (s.data.toList.take k))) (fun _ i => s.size - (RowKit.intOf i).toNat)
  case atStart => exact ⟨0, Nat.zero_le _, rfl, rfl⟩
  case round =>
    obtain ⟨k, hk, rfl, rfl⟩ := hrel
    have hd := dv_small (s.data.toList.take k) (by simp; omega)
    obtain ⟨d0, d1⟩ := hd
    by_cases hlt : k < s.size
    · have HS : Hid (dv (s.data.toList.take (k + 1)) = dvS (dv (s.data.toList.take k)) s[k]) := by
        show dv (s.data.toList.take (k + 1)) = _
        rw [take_snoc s k hlt, dv_snoc]
      generalize dv (s.data.toList.take k) = n at *
      by_cases h1 : 48 ≤ (s[k].toNat : Int)
      · by_cases h2 : (s[k].toNat : Int) ≤ 57
        · have HE : Hid (dvS n s[k] = 10 * n + ((s[k].toNat : Int) - 48)) := by show dvS n s[k] = _; simp [dvS, isDig, h1, h2]
          go_wp2
          go_round
          case rel => exact ⟨k + 1, by omega, by go_num, by rw [HS.out, HE.out]⟩
          case measure => simp [RowKit.intOf]; omega
        · have HE : Hid (dvS n s[k] = n) := by show dvS n s[k] = n; simp [dvS, isDig, h2]
          go_wp2
          go_round
          case rel => exact ⟨k + 1, by omega, by go_num, by rw [HS.out, HE.out]⟩
          case measure => simp [RowKit.intOf]; omega
      · have HE : Hid (dvS n s[k] = n) := by show dvS n s[k] = n; simp [dvS, isDig, h1]
        go_wp2
        go_round
        case rel => exact ⟨k + 1, by omega, by go_num, by rw [HS.out, HE.out]⟩
        case measure => simp [RowKit.intOf]; omega
    · go_wp2
      go_ret
      exact ⟨ret_int (by rw [List.take_of_length_le (by simp; omega)]), rfl⟩

theorem dv_app (l r : List UInt8) : dv (l ++ r) = r.foldl dvS (dv l) := by simp [dv]
theorem dig_nat (u : Nat) (h : u < 10) : ((UInt8.ofNat (48 + u)).toNat : Int) = 48 + (u : Int) := by
  simp [UInt8.toNat_ofNat']; omega
theorem dvS_dig (s : Int) (u : Nat) (h : u < 10) : dvS s (UInt8.ofNat (48 + u)) = 10 * s + u := by
  unfold dvS isDig
  rw [dig_nat u h, if_pos (by simp; omega)]; omega
theorem dv_dec : ∀ (n u : Nat), u ≤ n → dv (Lib.decDigits u) = u := by
  intro n
  induction n with
  | zero => intro u hu; have : u = 0 := by omega
            subst this; rw [Lib.decDigits_one (by decide)]; rfl
  | succ n ih =>
    intro u hu
    rw [Lib.decDigits]
    split
    · rename_i h
      show dvS 0 _ = _
      rw [dvS_dig 0 u h]; omega
    · rename_i h
      rw [dv_snoc, ih (u / 10) (by omega), dvS_dig _ _ (by omega)]
      omega
theorem dec_dig : ∀ (n u : Nat), u ≤ n → (Lib.decDigits u).all isDig = true := by
  intro n
  induction n with
  | zero => intro u hu; have : u = 0 := by omega
            subst this; rw [Lib.decDigits_one (by decide)]; decide
  | succ n ih =>
    intro u hu
    rw [Lib.decDigits]
    split
    · rename_i h
      simp only [List.all_cons, List.all_nil, Bool.and_true, isDig, dig_nat u h, decide_eq_true_eq]; omega
    · rename_i h
      rw [List.all_append, ih (u / 10) (by omega)]
      simp only [List.all_cons, List.all_nil, Bool.and_true, Bool.true_and, isDig, dig_nat (u % 10) (by omega), decide_eq_true_eq]; omega
theorem dec_head (u : Nat) : (Lib.decDigits u).head? ≠ some 45 := by
  intro h
  have h2 := dec_dig u u (Nat.le_refl _)
  cases e : Lib.decDigits u with
  | nil => simp [e] at h
  | cons a r =>
    rw [e] at h h2
    simp only [List.head?_cons, Option.some.injEq] at h
    subst h
    simp [isDig] at h2
theorem by8_dig (x : Int) (h0 : 0 ≤ x) (h1 : x < 10) : by8 (48 + x) = UInt8.ofNat (48 + x.toNat) := by
  unfold by8; congr 1; omega

def vOf (t : List UInt8) : Int := if t.head? = some 45 then -dv t else dv t
theorem dv_tail (g q : Int) (h0 : 0 ≤ g) (l : List UInt8) (hl : dv l = g / 100) : dv (l ++ [46] ++ [by8 (48 + g / 10 % 10), by8 (48 + g % 10)]) = g := by
  rw [List.append_assoc, dv_app, hl, by8_dig _ (by omega) (by omega), by8_dig _ (by omega) (by omega)]
  simp only [List.cons_append, List.nil_append, List.foldl_cons, List.foldl_nil]
  have e : dvS (g / 100) 46 = g / 100 := by unfold dvS; rw [if_neg (by decide)]
  rw [e, dvS_dig _ _ (by omega), dvS_dig _ _ (by omega)]
  omega
theorem dv_minus (l : List UInt8) : dv (45 :: l) = dv l := by
  show l.foldl dvS (dvS 0 45) = _
  have e : dvS 0 45 = 0 := by unfold dvS; rw [if_neg (by decide)]
  rw [e]; rfl
theorem vOf_mtext (v : Int) : vOf (mtextI v) = v := by
  have m0 : 0 ≤ mag v := by unfold mag; omega
  have hq : dv (Lib.decDigits (mag v / 100).toNat) = mag v / 100 := by rw [dv_dec _ _ (Nat.le_refl _)]; omega
  have ht := dv_tail (mag v) 0 m0 _ hq
  unfold vOf mtextI
  by_cases hn : v < 0
  · simp only [hn, if_true]
    have e : ([45] ++ Lib.decDigits (mag v / 100).toNat ++ [46] ++ [by8 (48 + mag v / 10 % 10), by8 (48 + mag v % 10)]) = 45 :: (Lib.decDigits (mag v / 100).toNat ++ [46] ++ [by8 (48 + mag v / 10 % 10), by8 (48 + mag v % 10)]) := by simp
    rw [e, List.head?_cons, if_pos rfl, dv_minus, ht]
    unfold mag; omega
  · simp only [hn, if_false]
    have e : ([] ++ Lib.decDigits (mag v / 100).toNat ++ [46] ++ [by8 (48 + mag v / 10 % 10), by8 (48 + mag v % 10)]) = Lib.decDigits (mag v / 100).toNat ++ [46] ++ [by8 (48 + mag v / 10 % 10), by8 (48 + mag v % 10)] := by simp
    rw [e, if_neg, ht]
    · unfold mag; omega
    · have := dec_head (mag v / 100).toNat
      cases e2 : Lib.decDigits (mag v / 100).toNat with
      | nil => have h3 := Lib.decDigits_length (mag v / 100).toNat; rw [e2] at h3; rw [Lib.nDigits] at h3; split at h3 <;> simp at h3
      | cons a r => rw [e2] at this; simpa using this

end Go.Proofs.YtcganhhnkidddaaDoor
