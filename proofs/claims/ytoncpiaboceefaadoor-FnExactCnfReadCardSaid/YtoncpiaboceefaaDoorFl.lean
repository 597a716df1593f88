/-
  A LINE AS IT IS TOLD IS SCANNED.
-/
import Derived.Test.YtoncpiaboceefaaDoorFk
namespace Go.Proofs.YtoncpiaboceefaaDoor
open Go.RowKit
set_option linter.unusedVariables false

theorem dv_app_le (a : List UInt8) : ∀ ds : List UInt8, ds.all isDig = true → 0 ≤ dv a → dv a ≤ dv (a ++ ds) := by
  intro ds
  induction ds generalizing a with
  | nil => intro _ _; rw [List.append_nil]; exact Int.le_refl _
  | cons d r ih =>
    intro hd h0
    rw [List.all_cons, Bool.and_eq_true] at hd
    have h1 := hd.1
    unfold isDig at h1
    rw [decide_eq_true_eq] at h1
    have h2 : dv a ≤ dv (a ++ [d]) := by rw [dv_snoc]; unfold dvS; omega
    have h3 := ih (a ++ [d]) hd.2 (by omega)
    rw [List.append_assoc] at h3
    exact Int.le_trans h2 h3
theorem dv_pre (v : Int) (h : 0 ≤ v) : dv (preD v) = v := by
  unfold preD
  by_cases hz : v = 0
  · rw [if_pos hz, hz]; rfl
  · rw [if_neg hz, dv_dec _ _ (Nat.le_refl _)]; omega
theorem pre_dig (v : Int) : (preD v).all isDig = true := by
  unfold preD
  split
  · rfl
  · exact dec_dig _ _ (Nat.le_refl _)
theorem dec_first : ∀ (n u : Nat), u ≤ n → 1 ≤ u → ∃ b ds, Lib.decDigits u = b :: ds ∧ 49 ≤ b.toNat := by
  intro n
  induction n with
  | zero => intro u h1 h2; omega
  | succ n ih =>
    intro u h1 h2
    rw [Lib.decDigits]
    split
    · rename_i h
      refine ⟨_, [], rfl, ?_⟩
      have := dig_nat u h
      omega
    · obtain ⟨b, ds, e, hb⟩ := ih (u / 10) (by omega) (by omega)
      exact ⟨b, ds ++ [_], by rw [e]; rfl, hb⟩
theorem scan_digE (rt : List Int → Bool) (n : Nat) (sg v : Int) (b c : UInt8) (ns : List Int) (q : List UInt8) : scan rt (n + 1) (.digit sg v b) ns (c :: q) =
    if 4000 < 10 * v + ((b.toNat : Int) - 48) then none
    else if 48 ≤ c.toNat ∧ c.toNat ≤ 57 then scan rt n (.digit sg (10 * v + ((b.toNat : Int) - 48)) c) ns q
    else scan rt n (.behind (sg * (10 * v + ((b.toNat : Int) - 48))) c) ns q := by rw [scan]; rfl
theorem scan_worE (rt : List Int → Bool) (n : Nat) (c d : UInt8) (ns : List Int) (q : List UInt8) : scan rt (n + 1) .word ns (c :: d :: q) =
    if c = 48 then scan rt n (.behind 0 d) ns q
    else if c = 45 then
      (if 49 ≤ d.toNat ∧ d.toNat ≤ 57 then scan rt n (.digit (-1) 0 d) ns q else none)
    else if 49 ≤ c.toNat ∧ c.toNat ≤ 57 then scan rt n (.digit 1 0 c) ns (d :: q) else none := by rw [scan]; rfl
theorem scan_worF (rt : List Int → Bool) (n : Nat) (c : UInt8) (ns : List Int) (q : List UInt8) (h : 49 ≤ c.toNat ∧ c.toNat ≤ 57) : scan rt (n + 1) .word ns (c :: q) = scan rt n (.digit 1 0 c) ns q := by
  rw [scan]
  show (if c = 48 then _ else if c = 45 then _ else if 49 ≤ c.toNat ∧ c.toNat ≤ 57 then _ else _) = _
  rw [if_neg (fun e => by rw [e] at h; simp at h), if_neg (fun e => by rw [e] at h; simp at h), if_pos h]
  rfl
theorem scan_dig (rt : List Int → Bool) (sg u : Int) (hu : u ≤ 4000) (c : UInt8) (q ns : _) (hc : ¬ (48 ≤ c.toNat ∧ c.toNat ≤ 57)) : ∀ (ds : List UInt8) (v : Int) (b : UInt8) (n : Nat), 0 ≤ v → 0 ≤ u → 48 ≤ b.toNat → b.toNat ≤ 57 → (v = 0 → 49 ≤ b.toNat) → preD u = preD v ++ b :: ds → ds.length + 1 ≤ n →
    scan rt n (.digit sg v b) ns (ds ++ c :: q) = scan rt (n - (ds.length + 1)) (.behind (sg * u) c) ns q := by
  intro ds
  induction ds with
  | nil =>
    intro v b n hv hu0 h1 h2 h0 e hn
    obtain ⟨m, rfl⟩ : ∃ m, n = m + 1 := ⟨n - 1, by simp at hn; omega⟩
    have hs := preD_step v b hv h1 h2 h0
    have e2 : u = 10 * v + ((b.toNat : Int) - 48) := by
      have h3 := dv_pre u hu0
      rw [e, ← hs, dv_pre _ (by omega)] at h3
      exact h3.symm
    rw [List.nil_append, scan_digE, if_neg (by omega), if_neg hc, ← e2]
    rfl
  | cons d r ih =>
    intro v b n hv hu0 h1 h2 h0 e hn
    obtain ⟨m, rfl⟩ : ∃ m, n = m + 1 := ⟨n - 1, by simp at hn; omega⟩
    have hs := preD_step v b hv h1 h2 h0
    have hall := pre_dig u
    rw [e, show preD v ++ b :: d :: r = preD v ++ [b] ++ d :: r by simp, ← hs, List.all_append, Bool.and_eq_true, List.all_cons, Bool.and_eq_true] at hall
    have hd := hall.2.1
    unfold isDig at hd
    rw [decide_eq_true_eq] at hd
    have e' : preD u = preD (10 * v + ((b.toNat : Int) - 48)) ++ d :: r := by rw [hs, e]; simp
    have hle : 10 * v + ((b.toNat : Int) - 48) ≤ u := by
      have h3 := dv_app_le (preD (10 * v + ((b.toNat : Int) - 48))) (d :: r) (by rw [List.all_cons, hall.2.1, hall.2.2]; rfl) (by rw [dv_pre _ (by omega)]; omega)
      rw [← e', dv_pre u hu0, dv_pre _ (by omega)] at h3
      exact h3
    rw [List.cons_append, List.length_cons, scan_digE, if_neg (by omega), if_pos (by omega), ih _ d m (by omega) hu0 (by omega) (by omega) (fun h => by omega) e' (by simp at hn; omega)]
    congr 1
    omega
theorem tB_cons (t : List Int) (r : List UInt8) : ∃ c q, tB t ++ r = c :: q ∧ ¬ (48 ≤ c.toNat ∧ c.toNat ≤ 57) := by
  cases t with
  | nil => exact ⟨10, r, rfl, by decide⟩
  | cons x t => exact ⟨32, _, rfl, by decide⟩
theorem itoa_zero : Lib.itoa 0 = [48] := by
  rw [itoa_pos (by decide)]; exact Lib.decDigits_one (by decide)
theorem scan_num (rt : List Int → Bool) (x : Int) (hx : -4000 ≤ x ∧ x ≤ 4000) (ns : List Int) (c : UInt8) (q : List UInt8) (hc : ¬ (48 ≤ c.toNat ∧ c.toNat ≤ 57)) (n : Nat) (hn : (Lib.itoa x).length + 1 ≤ n) :
    ∃ m, n ≤ m + (Lib.itoa x).length + 1 ∧ scan rt n .word ns (Lib.itoa x ++ c :: q) = scan rt m (.behind x c) ns q := by
  obtain ⟨k, rfl⟩ : ∃ k, n = k + 1 := ⟨n - 1, by omega⟩
  by_cases h0 : x = 0
  · subst h0
    refine ⟨k, by omega, ?_⟩
    rw [itoa_zero, List.cons_append, List.nil_append, scan_worE, if_pos rfl]
  · by_cases hp : 0 < x
    · obtain ⟨b, ds, e, hb⟩ := dec_first x.toNat x.toNat (Nat.le_refl _) (by omega)
      have ep : preD x = b :: ds := by unfold preD; rw [if_neg h0]; exact e
      have hall := pre_dig x
      rw [ep, List.all_cons, Bool.and_eq_true] at hall
      have hd := hall.1
      unfold isDig at hd
      rw [decide_eq_true_eq] at hd
      rw [(preD_itoa x (by omega)).1, ep] at hn ⊢
      refine ⟨k - (ds.length + 1), by simp; omega, ?_⟩
      rw [List.cons_append, scan_worF _ _ _ _ _ (by omega)]
      have := scan_dig rt 1 x (by omega) c q ns hc ds 0 b k (Int.le_refl 0) (by omega) (by omega) (by omega) (fun _ => hb) (by rw [ep]; rfl) (by simp at hn; omega)
      rw [this, Int.one_mul]
    · obtain ⟨b, ds, e, hb⟩ := dec_first (-x).toNat (-x).toNat (Nat.le_refl _) (by omega)
      have ep : preD (-x) = b :: ds := by unfold preD; rw [if_neg (by omega)]; exact e
      have hall := pre_dig (-x)
      rw [ep, List.all_cons, Bool.and_eq_true] at hall
      have hd := hall.1
      unfold isDig at hd
      rw [decide_eq_true_eq] at hd
      have ei := (preD_itoa (-x) (by omega)).2
      rw [Int.neg_neg, ep] at ei
      rw [ei] at hn ⊢
      refine ⟨k - (ds.length + 1), by simp; omega, ?_⟩
      rw [List.cons_append, List.cons_append, scan_worE, if_neg (by decide), if_pos rfl, if_pos (by omega)]
      have := scan_dig rt (-1) (-x) (by omega) c q ns hc ds 0 b k (Int.le_refl 0) (by omega) (by omega) (by omega) (fun _ => hb) (by rw [ep]; rfl) (by simp at hn; omega)
      rw [this, show (-1 : Int) * -x = x by omega]
/-- A line as it is told is read. -/
theorem scan_line (rt : List Int → Bool) : ∀ (t : List Int) (x : Int) (ns : List Int) (r : List UInt8) (n : Nat), SmN (x :: t) → 3 * (Lib.itoa x ++ tB t).length + 1 ≤ n →
    scan rt n .word ns (Lib.itoa x ++ (tB t ++ r)) = if rt (ns ++ x :: t) = true then some (ns ++ x :: t, r) else none := by
  intro t
  induction t with
  | nil =>
    intro x ns r n hs hn
    obtain ⟨m, hm, e⟩ := scan_num rt x (hs x (List.mem_cons_self ..)) ns 10 r (by decide) n (by simp [tB] at hn; omega)
    obtain ⟨k, rfl⟩ : ∃ k, m = k + 1 := ⟨m - 1, by simp [tB] at hn; omega⟩
    show scan rt n .word ns (Lib.itoa x ++ 10 :: r) = _
    rw [e, scan, if_neg (by decide)]
    by_cases h : rt (ns ++ [x]) = true
    · rw [if_pos ⟨rfl, h⟩, if_pos h]
    · rw [if_neg (fun g => h g.2), if_neg h]
  | cons y t ih =>
    intro x ns r n hs hn
    obtain ⟨m, hm, e⟩ := scan_num rt x (hs x (List.mem_cons_self ..)) ns 32 (Lib.itoa y ++ tB t ++ r) (by decide) n (by simp [tB] at hn; omega)
    obtain ⟨k, rfl⟩ : ∃ k, m = k + 1 := ⟨m - 1, by simp [tB] at hn; omega⟩
    have hh := ih y (ns ++ [x]) r k (fun z hz => hs z (List.mem_cons_of_mem _ hz)) (by simp [tB] at hn ⊢; omega)
    show scan rt n .word ns (Lib.itoa x ++ 32 :: (Lib.itoa y ++ tB t ++ r)) = _
    rw [e, scan, if_pos rfl, List.append_assoc, hh]
    simp

end Go.Proofs.YtoncpiaboceefaaDoor
