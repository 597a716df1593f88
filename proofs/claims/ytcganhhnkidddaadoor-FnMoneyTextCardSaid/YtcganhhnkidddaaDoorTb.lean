/-
  THE TEXT OF MONEY: both sides.
-/
import Derived.Test.YtcganhhnkidddaaDoorTa
import Derived.Deep.RegionWith
import Derived.Deep.RegionHeld3
namespace Go.Proofs.YtcganhhnkidddaaDoor
open Go.RowKit Go.Lib
set_option linter.unusedVariables false

set_option maxHeartbeats 400000 in
theorem dec_zero (w : World) :
    Calls Tryd.prog 25 #[.int .i64 0] w fun e w' => e = .returned (.string ⟨(Lib.itoa 0).toArray⟩) ∧ Below w.heap.size w w' := by
  have e : Lib.itoa 0 = [48] := by rw [Lib.itoa, if_neg (by decide)]; exact Lib.decDigits_one (by decide)
  rw [e]; clear e
  go_enter Tryd.func25, Tryd.ntmps25
  go_wp2
  go_ret
  exact ⟨rfl, Below.refl _ _⟩
theorem dec_any (n : Int) (h : -1000000000000000 ≤ n ∧ n ≤ 1000000000000000) (w : World) :
    Calls Tryd.prog 25 #[.int .i64 n] w fun e w' => e = .returned (.string ⟨(Lib.itoa n).toArray⟩) ∧ Below w.heap.size w w' := by
  by_cases h0 : n = 0
  · subst h0; exact dec_zero w
  · by_cases hn : n < 0
    · obtain ⟨u, hu⟩ := Int.eq_ofNat_of_zero_le (show 0 ≤ -n by omega)
      obtain rfl : n = -(u : Int) := by omega
      have := dec_neg u (by omega) (by omega) w
      rw [show Lib.itoa (-(u : Int)) = 45 :: Lib.decDigits u by rw [Lib.itoa, if_pos hn]; congr 2; omega]
      exact this
    · obtain ⟨u, rfl⟩ := Int.eq_ofNat_of_zero_le (show 0 ≤ n by omega)
      have := dec_pos u (by omega) (by omega) w
      rw [show Lib.itoa (u : Int) = Lib.decDigits u by rw [Lib.itoa, if_neg hn]; congr 1]
      exact this

/-- The text of money. -/
def mtext (v : Int) : List UInt8 := (if v < 0 then [45] else []) ++ Lib.decDigits (mag v / 100).toNat ++ [46] ++ [by8 (48 + mag v / 10 % 10), by8 (48 + mag v % 10)]
def mtextOf (v : Int) : List UInt8 := if isM v then mtext v else []

theorem conv2 (w : World) (a : Nat) (x y : Int) (hx0 : 0 ≤ x) (hx1 : x < 256) (hy0 : 0 ≤ y) (hy1 : y < 256) (c0 : w.cell? ⟨a, 0, none⟩ = some (.int .u8 x)) (c1 : w.cell? ⟨a, 1, none⟩ = some (.int .u8 y)) :
    Sem.run Tryd.prog (convert 22 9 (.slice (some ⟨a, 0, none⟩) 2 2)) w = .ok (.string ⟨[by8 x, by8 y].toArray⟩) w := by
  refine conv_row _ [by8 x, by8 y] a 2 (fun j hj => ?_)
  have : j = 0 ∨ j = 1 := by simp at hj; omega
  rcases this with rfl | rfl
  · rw [c0]; simp [by8_nat hx0 hx1]
  · rw [c1]; simp [by8_nat hy0 hy1]

theorem wrapI (n : Int) (h : -9223372036854775808 ≤ n ∧ n < 9223372036854775808) : IntKind.i64.wrap n = n := by
  have e : IntKind.i64.wrap n = if (true && decide (n % 18446744073709551616 ≥ 9223372036854775808)) = true then n % 18446744073709551616 - 18446744073709551616 else n % 18446744073709551616 := rfl
  rw [e]
  simp only [Bool.true_and, decide_eq_true_eq]
  split <;> omega
theorem wrap8 (n : Int) (h : 0 ≤ n ∧ n < 256) : IntKind.u8.wrap n = n := by
  have e : IntKind.u8.wrap n = if (false && decide (n % 256 ≥ 128)) = true then n % 256 - 256 else n % 256 := rfl
  rw [e]
  simp only [Bool.false_and, Bool.false_eq_true, if_false]
  omega

theorem app_neg (l : List UInt8) (x y : UInt8) : (⟨#[45]⟩ : ByteArray) ++ ⟨l.toArray⟩ ++ ⟨#[46]⟩ ++ ⟨#[x, y]⟩ = ⟨([45] ++ l ++ [46] ++ [x, y]).toArray⟩ := by
  rw [ba_app [45] l, ba_app _ [46], ba_app _ [x, y]]
theorem app_pos (l : List UInt8) (x y : UInt8) : (⟨#[]⟩ : ByteArray) ++ ⟨l.toArray⟩ ++ ⟨#[46]⟩ ++ ⟨#[x, y]⟩ = ⟨(l ++ [46] ++ [x, y]).toArray⟩ := by
  rw [ba_app [] l, ba_app _ [46], ba_app _ [x, y]]; rfl
theorem app_pos' (l : List UInt8) (x y : UInt8) : (⟨l.toArray⟩ : ByteArray) ++ ⟨#[46]⟩ ++ ⟨#[x, y]⟩ = ⟨(l ++ [46] ++ [x, y]).toArray⟩ := by
  rw [ba_app l [46], ba_app _ [x, y]]

set_option maxHeartbeats 1000000 in
theorem smt_in (v : Int) (h : isM v = true) (w : World) :
    Calls Tryd.prog 11 #[.int .i64 v] w fun e w' => e = .returned (.string ⟨(mtext v).toArray⟩) ∧ Below w.heap.size w w' := by
  have m0 : 0 ≤ mag v := by unfold mag; omega
  have m1 : mag v ≤ 1000000000000 := by have := isM_t h; unfold mag; omega
  have HD : Hid (∀ w, Calls Tryd.prog 25 #[.int .i64 (mag v / 100)] w fun e w' => e = .returned (.string ⟨(Lib.decDigits (mag v / 100).toNat).toArray⟩) ∧ Below w.heap.size w w') := by
    intro w
    have := dec_any (mag v / 100) (by omega) w
    rwa [show Lib.itoa (mag v / 100) = Lib.decDigits (mag v / 100).toNat by rw [Lib.itoa, if_neg (by omega)]] at this
  have HL : (Lib.decDigits (mag v / 100).toNat).length ≤ 20 := by
    rw [Lib.decDigits_length]
    by_cases hz : (mag v / 100).toNat = 0
    · rw [hz, Lib.nDigits_small (by decide)]; decide
    · have := Lib.numDigits_eq (mag v / 100).toNat (by omega) (by omega)
      split at this <;> omega
  have HM : Hid (∀ w, Calls Tryd.prog 24 #[.int .i64 v] w fun e w' => e = .returned (.int .i64 (mag v)) ∧ w' = w) := fun w => abs_any v h w
  have HT : Hid (mtext v = (if v < 0 then [45] else []) ++ Lib.decDigits (mag v / 100).toNat ++ [46] ++ [by8 (48 + mag v / 10 % 10), by8 (48 + mag v % 10)]) := rfl
  generalize Lib.decDigits (mag v / 100).toNat = l at *
  generalize mag v = g at *
  have t1 : g.tdiv 100 = g / 100 := Int.tdiv_eq_ediv_of_nonneg m0
  have t2 : g.tdiv 10 = g / 10 := Int.tdiv_eq_ediv_of_nonneg m0
  have t3 : (g / 10).tmod 10 = g / 10 % 10 := Int.tmod_eq_emod_of_nonneg (by omega)
  have t4 : g.tmod 10 = g % 10 := Int.tmod_eq_emod_of_nonneg m0
  have x0 : 0 ≤ 48 + g / 10 % 10 := by omega
  have x1 : 48 + g / 10 % 10 < 58 := by omega
  have y0 : 0 ≤ 48 + g % 10 := by omega
  have y1 : 48 + g % 10 < 58 := by omega
  have q0 : 0 ≤ g / 100 := by omega
  have q1 : g / 100 ≤ 10000000000 := by omega
  have a0 : 0 ≤ g / 10 := by omega
  have a1 : g / 10 ≤ 100000000000 := by omega
  have b0 : 0 ≤ g / 10 % 10 := by omega
  have b1 : g / 10 % 10 < 10 := by omega
  have c0 : 0 ≤ g % 10 := by omega
  have c1 : g % 10 < 10 := by omega
  generalize g / 100 = q at *
  generalize g / 10 = A at *
  generalize A % 10 = B at *
  generalize g % 10 = C at *
  have w1 := wrapI q (by omega)
  have w2 := wrapI A (by omega)
  have w3 := wrapI B (by omega)
  have w4 := wrapI C (by omega)
  have w5 := wrapI (48 + B) (by omega)
  have w6 := wrapI (48 + C) (by omega)
  have w7 := wrap8 (48 + B) (by omega)
  have w8 := wrap8 (48 + C) (by omega)
  generalize hx : 48 + B = x at *
  generalize hy : 48 + C = y at *
  have hcv := fun (w : World) (a : Nat) => conv2 w a x y (by omega) (by omega) (by omega) (by omega)
  by_cases hn : v < 0
  · have HE : Hid (mtext v = [45] ++ l ++ [46] ++ [by8 x, by8 y]) := by show mtext v = _; rw [HT.out]; simp [hn]
    go_enter Tryd.func11, Tryd.ntmps11
    go_wp2_with (first | (go_at_call 23; refine (l01Money_any _ _).mono ?_; rintro e w' ⟨rfl, rfl⟩) | (go_at_call 24; refine (HM.out _).mono ?_; rintro e w' ⟨rfl, rfl⟩))
    go_region_with (go_at_call 25; refine (HD.out _).mono ?_; rintro e w1 ⟨rfl, hb⟩; obtain ⟨hc, hf⟩ := bcell hb; have hz := hb.size; have HB : Hid (Below _ _ w1) := hb; clear hb)
    all_goals
      go_wp2
      go_ret
      refine ⟨?_, ?_⟩
      · rw [HE.out]
        first
        | exact congrArg (fun x => Ending.returned (.string x)) (app_neg l (by8 x) (by8 y))
        | exact congrArg (fun x => Ending.returned (.string x)) (app_pos' l (by8 x) (by8 y))
      · first
        | exact bA (bT (Below.refl _ _).drew HB.out) _
        | exact bT (bA0 _ _).drew HB.out
        | exact bT (bA (Below.refl _ _).drew _) HB.out
  · have HE : Hid (mtext v = l ++ [46] ++ [by8 x, by8 y]) := by show mtext v = _; rw [HT.out]; simp [hn]
    go_enter Tryd.func11, Tryd.ntmps11
    go_wp2_with (first | (go_at_call 23; refine (l01Money_any _ _).mono ?_; rintro e w' ⟨rfl, rfl⟩) | (go_at_call 24; refine (HM.out _).mono ?_; rintro e w' ⟨rfl, rfl⟩))
    go_region_with (go_at_call 25; refine (HD.out _).mono ?_; rintro e w1 ⟨rfl, hb⟩; obtain ⟨hc, hf⟩ := bcell hb; have hz := hb.size; have HB : Hid (Below _ _ w1) := hb; clear hb)
    all_goals
      go_wp2
      go_ret
      refine ⟨?_, ?_⟩
      · rw [HE.out]
        first
        | exact congrArg (fun x => Ending.returned (.string x)) (app_pos l (by8 x) (by8 y))
        | exact congrArg (fun x => Ending.returned (.string x)) (app_pos' l (by8 x) (by8 y))
      · first
        | exact bA (bT (Below.refl _ _).drew HB.out) _
        | exact bT (bA0 _ _).drew HB.out
        | exact bT (bA (Below.refl _ _).drew _) HB.out

theorem smt_any (v : Int) (w : World) :
    Calls Tryd.prog 11 #[.int .i64 v] w fun e w' => e = .returned (.string ⟨(mtextOf v).toArray⟩) ∧ Below w.heap.size w w' := by
  cases h : isM v
  · have e : mtextOf v = [] := by simp [mtextOf, h]
    rw [e]; clear e
    go_enter Tryd.func11, Tryd.ntmps11
    go_wp2_with (go_at_call 23; refine (l01Money_any _ _).mono ?_; rintro e w' ⟨rfl, rfl⟩)
    go_ret
    exact ⟨rfl, Below.refl _ _⟩
  · rw [show mtextOf v = mtext v by simp [mtextOf, h]]
    exact smt_in v h w

end Go.Proofs.YtcganhhnkidddaaDoor
