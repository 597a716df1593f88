/-
  WHAT A SCAN THAT GOES RIGHT HAS READ.
-/
import Derived.Test.YtoncpiaboceefaaDoorFi
namespace Go.Proofs.YtoncpiaboceefaaDoor
open Go.RowKit
set_option linter.unusedVariables false

/-- The numbers behind the first one, and the line's end. -/
def tB : List Int → List UInt8
  | [] => [10]
  | x :: t => 32 :: (Lib.itoa x ++ tB t)
theorem hd_cons {r : List UInt8} {c : UInt8} (h : r.headD 0 = c) (hc : c ≠ 0) : r = c :: r.tail := by
  cases r with
  | nil => exact absurd h.symm hc
  | cons a t => simp at h; rw [h]; rfl
theorem tB_hd (t : List Int) (r : List UInt8) : (tB t ++ r).headD 0 ≠ 0 := by
  cases t <;> simp [tB]
/-- The digits told so far. -/
def preD (v : Int) : List UInt8 := if v = 0 then [] else Lib.decDigits v.toNat
theorem dig_of (b : UInt8) (h : 48 ≤ b.toNat) : UInt8.ofNat (48 + (b.toNat - 48)) = b := by
  apply UInt8.toNat_inj.1
  have := b.toNat_lt
  rw [UInt8.toNat_ofNat']
  omega
theorem preD_step (v : Int) (b : UInt8) (hv : 0 ≤ v) (h1 : 48 ≤ b.toNat) (h2 : b.toNat ≤ 57) (h0 : v = 0 → 49 ≤ b.toNat) : preD (10 * v + ((b.toNat : Int) - 48)) = preD v ++ [b] := by
  by_cases hz : v = 0
  · subst hz
    have h3 := h0 rfl
    unfold preD
    rw [if_neg (by omega), if_pos rfl, Lib.decDigits, dif_pos (by omega)]
    have := dig_of b h1
    rw [show (10 * (0 : Int) + ((b.toNat : Int) - 48)).toNat = b.toNat - 48 by omega]
    simp [this]
  · unfold preD
    rw [if_neg (by omega), if_neg hz, Lib.decDigits, dif_neg (by omega), show (10 * v + ((b.toNat : Int) - 48)).toNat / 10 = v.toNat by omega, show (10 * v + ((b.toNat : Int) - 48)).toNat % 10 = b.toNat - 48 by omega, dig_of b h1]
theorem preD_itoa (u : Int) (h : 1 ≤ u) : Lib.itoa u = preD u ∧ Lib.itoa (-u) = 45 :: preD u := by
  unfold preD
  rw [if_neg (by omega)]
  refine ⟨itoa_pos (by omega), ?_⟩
  rw [itoa_neg (by omega), show (-u).natAbs = u.toNat by omega]

theorem scan_right (rt : List Int → Bool) : ∀ n : Nat,
    (∀ ns r ms r', scan rt n .word ns r = some (ms, r') → ∃ x t, ms = ns ++ x :: t ∧ r = Lib.itoa x ++ tB t ++ r' ∧ rt ms = true) ∧
    (∀ sg v b ns r ms r', (sg = 1 ∨ sg = -1) → 0 ≤ v → 48 ≤ b.toNat → b.toNat ≤ 57 → (v = 0 → 49 ≤ b.toNat) → scan rt n (.digit sg v b) ns r = some (ms, r') → ∃ u ds t, 1 ≤ u ∧ preD u = preD v ++ b :: ds ∧ r = ds ++ tB t ++ r' ∧ ms = ns ++ (sg * u) :: t ∧ rt ms = true) ∧
    (∀ x b ns r ms r', scan rt n (.behind x b) ns r = some (ms, r') → ∃ t, ms = ns ++ x :: t ∧ b :: r = tB t ++ r' ∧ rt ms = true) := by
  intro n
  induction n with
  | zero =>
    refine ⟨fun ns r ms r' h => ?_, fun sg v b ns r ms r' _ _ _ _ _ h => ?_, fun x b ns r ms r' h => ?_⟩ <;> (simp [scan] at h)
  | succ n ih =>
    obtain ⟨iw, idg, ib⟩ := ih
    refine ⟨fun ns r ms r' h => ?_, fun sg v b ns r ms r' hsg hv h1 h2 h0 h => ?_, fun x b ns r ms r' h => ?_⟩
    · rw [scan] at h
      split at h
      · rename_i h48
        have hr := hd_cons h48 (by decide)
        obtain ⟨t, e1, e2, e3⟩ := ib _ _ _ _ _ _ h
        have hc : r.tail.headD 0 ≠ 0 := by
          have := tB_hd t r'
          rw [← e2] at this
          simpa using this
        have hr1 := hd_cons (r := r.tail) rfl hc
        refine ⟨0, t, e1, ?_, e3⟩
        rw [hr, hr1, e2, show Lib.itoa 0 = [48] by rw [itoa_pos (by decide)]; exact Lib.decDigits_one (by decide)]
        rfl
      · split at h
        · rename_i h45
          have hr := hd_cons h45 (by decide)
          split at h
          · rename_i hd
            have hc : r.tail.headD 0 ≠ 0 := fun e => by rw [e] at hd; simp at hd
            have hr1 := hd_cons (r := r.tail) rfl hc
            obtain ⟨u, ds, t, f1, f2, f3, f4, f5⟩ := idg _ _ _ _ _ _ _ (.inr rfl) (Int.le_refl 0) (by omega) (by omega) (fun _ => by omega) h
            refine ⟨-1 * u, t, f4, ?_, f5⟩
            clear h
            generalize r.tail.headD 0 = c at *
            rw [show (-1 : Int) * u = -u by omega, (preD_itoa u f1).2, f2, hr, hr1, f3]
            simp [preD]
          · cases h
        · split at h
          · rename_i hd
            have hc : r.headD 0 ≠ 0 := fun e => by rw [e] at hd; simp at hd
            have hr := hd_cons (r := r) rfl hc
            obtain ⟨u, ds, t, f1, f2, f3, f4, f5⟩ := idg _ _ _ _ _ _ _ (.inl rfl) (Int.le_refl 0) (by omega) (by omega) (fun _ => by omega) h
            refine ⟨1 * u, t, f4, ?_, f5⟩
            clear h
            generalize r.headD 0 = c at *
            rw [Int.one_mul, (preD_itoa u f1).1, f2, hr, f3]
            simp [preD]
          · cases h
    · rw [scan] at h
      have hs := preD_step v b hv h1 h2 h0
      split at h
      · cases h
      · split at h
        · rename_i hd
          have hc : r.headD 0 ≠ 0 := fun e => by rw [e] at hd; simp at hd
          have hr := hd_cons (r := r) rfl hc
          obtain ⟨u, ds, t, f1, f2, f3, f4, f5⟩ := idg _ _ _ _ _ _ _ hsg (by omega) hd.1 hd.2 (fun e => by omega) h
          refine ⟨u, r.headD 0 :: ds, t, f1, by rw [f2, hs]; simp, ?_, f4, f5⟩
          rw [List.cons_append, List.cons_append, ← f3]
          exact hr
        · obtain ⟨t, e1, e2, e3⟩ := ib _ _ _ _ _ _ h
          have hc : r.headD 0 ≠ 0 := by
            have := tB_hd t r'
            rw [← e2] at this
            simpa using this
          have hr := hd_cons (r := r) rfl hc
          refine ⟨10 * v + ((b.toNat : Int) - 48), [], t, by omega, hs, ?_, e1, e3⟩
          rw [List.nil_append, ← e2]
          exact hr
    · rw [scan] at h
      split at h
      · rename_i h32
        obtain ⟨x2, t2, e1, e2, e3⟩ := iw _ _ _ _ h
        refine ⟨x2 :: t2, by rw [e1]; simp, ?_, e3⟩
        rw [e2, h32]
        simp [tB]
      · split at h
        · rename_i h10
          cases h
          exact ⟨[], rfl, by rw [h10.1]; rfl, h10.2⟩
        · cases h

end Go.Proofs.YtoncpiaboceefaaDoor
