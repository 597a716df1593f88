/-
  A NUMBER IN DIGITS, AS THE MODEL TELLS IT.
  THE TEXT OF MONEY, AS THE PROGRAM TELLS IT.
  THE TEXT OF MONEY: both sides.
-/
import Derived.Test.YtanoklpffenljaaGreatDoorWz
import Derived.Test.YtanoklpffenljaaGreatDoorAa
import Derived.Test.YtanoklpffenljaaGreatDoorVz
import Derived.Deep.RegionWith
import Derived.Deep.RegionHeld3
namespace Go.Proofs.YtanoklpffenljaaGreatDoor
open Go.RowKit Go.Lib
set_option linter.unusedVariables false




end Go.Proofs.YtanoklpffenljaaGreatDoor
namespace Go.Proofs.YtanoklpffenljaaGreatDoor
open Go.RowKit Go.Lib
set_option linter.unusedVariables false

def mtextI (v : Int) : List UInt8 := (if v < 0 then [45] else []) ++ Lib.decDigits (mag v / 100).toNat ++ [46] ++ [by8 (48 + mag v / 10 % 10), by8 (48 + mag v % 10)]
theorem two_one (u : Nat) (h : u < 10) : [48] ++ Lib.decDigits u = [by8 (48 + (u : Int) / 10 % 10), by8 (48 + (u : Int) % 10)] := by
  rw [Lib.decDigits_one h]
  unfold by8
  rw [show (48 + (u : Int) / 10 % 10).toNat = 48 by omega, show (48 + (u : Int) % 10).toNat = 48 + u by omega]
  rfl
theorem two_two (u : Nat) (h : ¬ u < 10) (h1 : u < 100) : Lib.decDigits u = [by8 (48 + (u : Int) / 10 % 10), by8 (48 + (u : Int) % 10)] := by
  rw [Lib.decDigits_two h h1]
  unfold by8
  rw [show (48 + (u : Int) / 10 % 10).toNat = 48 + u / 10 by omega, show (48 + (u : Int) % 10).toNat = 48 + u % 10 by omega]

theorem app4 (l r : List UInt8) : (⟨#[45]⟩ : ByteArray) ++ ⟨l.toArray⟩ ++ ⟨#[46]⟩ ++ ⟨r.toArray⟩ = ⟨([45] ++ l ++ [46] ++ r).toArray⟩ := by
  rw [ba_app [45] l, ba_app _ [46], ba_app _ r]
theorem app3 (l r : List UInt8) : (⟨#[]⟩ : ByteArray) ++ ⟨l.toArray⟩ ++ ⟨#[46]⟩ ++ ⟨r.toArray⟩ = ⟨(l ++ [46] ++ r).toArray⟩ := by
  rw [ba_app [] l, ba_app _ [46], ba_app _ r]; rfl

set_option maxHeartbeats 1000000 in
theorem imt_in (v : Int) (h : isM v = true) (w : World) (ht : PowTab w) :
    Calls Tryz.prog 43 #[.int .i64 v] w fun e w' => e = .returned (.string ⟨(mtextI v).toArray⟩) ∧ Below w.heap.size w w' := by
  have m0 : 0 ≤ mag v := by unfold mag; omega
  have m1 : mag v ≤ 1000000000000 := by have := isM_t h; unfold mag; omega
  have HM : Hid (∀ w, Calls Tryz.prog 84 #[.int .i64 v] w fun e w' => e = .returned (.int .u64 (mag v)) ∧ w' = w) := fun w => mag_any v h w
  have HP : Hid (PowTab w) := ht
  have H1 : Hid (∀ w1, Below w.heap.size w w1 → Calls Tryz.prog 85 #[.int .u64 (mag v % 100), .int .i64 10] w1 fun e w' => e = .returned (.string ⟨(Lib.decDigits (mag v % 100).toNat).toArray⟩) ∧ Below w1.heap.size w1 w') := fun w1 hb => fu_any _ (by omega) (by omega) w1 (HP.out.below hb)
  have H2 : Hid (∀ w1, Below w.heap.size w w1 → Calls Tryz.prog 85 #[.int .u64 (mag v / 100), .int .i64 10] w1 fun e w' => e = .returned (.string ⟨(Lib.decDigits (mag v / 100).toNat).toArray⟩) ∧ Below w1.heap.size w1 w') := fun w1 hb => fu_any _ (by omega) (by omega) w1 (HP.out.below hb)
  have HL : (Lib.decDigits (mag v / 100).toNat).length ≤ 20 := by
    rw [Lib.decDigits_length]
    by_cases hz : (mag v / 100).toNat = 0
    · rw [hz, Lib.nDigits_small (by decide)]; decide
    · have := Lib.numDigits_eq (mag v / 100).toNat (by omega) (by omega)
      split at this <;> omega
  have HT : Hid (mtextI v = (if v < 0 then [45] else []) ++ Lib.decDigits (mag v / 100).toNat ++ [46] ++ [by8 (48 + mag v / 10 % 10), by8 (48 + mag v % 10)]) := rfl
  clear ht
  have ex : mag v / 10 % 10 = (((mag v % 100).toNat : Int)) / 10 % 10 := by omega
  have ey : mag v % 10 = (((mag v % 100).toNat : Int)) % 10 := by omega
  have hu : (mag v % 100).toNat < 100 := by omega
  rw [ex, ey] at HT
  clear ex ey
  generalize (mag v % 100).toNat = u at *
  generalize Lib.decDigits (mag v / 100).toNat = l at *
  have g0 : 0 ≤ mag v % 100 := by omega
  have g1 : mag v % 100 < 100 := by omega
  generalize mag v = g at *
  by_cases h10 : u < 10
  · have e1 := two_one u h10
    have e2 : (Lib.decDigits u).length = 1 := by rw [Lib.decDigits_length, Lib.nDigits_small h10]
    generalize 48 + (u : Int) / 10 % 10 = x at *
    generalize 48 + (u : Int) % 10 = y at *
    generalize Lib.decDigits u = lc at *
    have E1 : Hid ([48] ++ lc = [by8 x, by8 y]) := e1
    clear e1
    by_cases hn : v < 0
    · have HE : Hid (mtextI v = [45] ++ l ++ [46] ++ [by8 x, by8 y]) := by show mtextI v = _; rw [HT.out]; simp [hn]
      go_enter Tryz.func43, Tryz.ntmps43
      go_wp2_with fail
      refine (inBound0_any _ _).mono ?_
      rintro e w1 ⟨rfl, b1⟩
      have B1 : Hid (Below w.heap.size w w1) := b1
      clear b1
      go_wp2_with (first | (go_at_call 84; refine (HM.out _).mono ?_; rintro e w' ⟨rfl, rfl⟩) | fail)
      refine (H1.out _ B1.out).mono ?_
      rintro e w2 ⟨rfl, b2⟩
      have B2 : Hid (Below w.heap.size w w2) := bT B1.out b2
      clear b2 B1
      go_wp2_with fail
      refine (H2.out _ B2.out).mono ?_
      rintro e w3 ⟨rfl, b3⟩
      have B3 : Hid (Below w.heap.size w w3) := bT B2.out b3
      clear b3 B2
      go_wp2
      go_ret
      refine ⟨?_, B3.out⟩
      rw [HE.out]
      exact congrArg (fun x => Ending.returned (.string x)) (by rw [ba_app [48] lc, E1.out]; exact app4 l _)
    · have HE : Hid (mtextI v = l ++ [46] ++ [by8 x, by8 y]) := by show mtextI v = _; rw [HT.out]; simp [hn]
      go_enter Tryz.func43, Tryz.ntmps43
      go_wp2_with fail
      refine (inBound0_any _ _).mono ?_
      rintro e w1 ⟨rfl, b1⟩
      have B1 : Hid (Below w.heap.size w w1) := b1
      clear b1
      go_wp2_with (first | (go_at_call 84; refine (HM.out _).mono ?_; rintro e w' ⟨rfl, rfl⟩) | fail)
      refine (H1.out _ B1.out).mono ?_
      rintro e w2 ⟨rfl, b2⟩
      have B2 : Hid (Below w.heap.size w w2) := bT B1.out b2
      clear b2 B1
      go_wp2_with fail
      refine (H2.out _ B2.out).mono ?_
      rintro e w3 ⟨rfl, b3⟩
      have B3 : Hid (Below w.heap.size w w3) := bT B2.out b3
      clear b3 B2
      go_wp2
      go_ret
      refine ⟨?_, B3.out⟩
      rw [HE.out]
      exact congrArg (fun x => Ending.returned (.string x)) (by rw [ba_app [48] lc, E1.out]; exact app3 l _)
  · have e1 := two_two u h10 hu
    have e2 : (Lib.decDigits u).length = 2 := by rw [e1]; rfl
    generalize 48 + (u : Int) / 10 % 10 = x at *
    generalize 48 + (u : Int) % 10 = y at *
    generalize Lib.decDigits u = lc at *
    have E1 : Hid (lc = [by8 x, by8 y]) := e1
    clear e1
    by_cases hn : v < 0
    · have HE : Hid (mtextI v = [45] ++ l ++ [46] ++ [by8 x, by8 y]) := by show mtextI v = _; rw [HT.out]; simp [hn]
      go_enter Tryz.func43, Tryz.ntmps43
      go_wp2_with fail
      refine (inBound0_any _ _).mono ?_
      rintro e w1 ⟨rfl, b1⟩
      have B1 : Hid (Below w.heap.size w w1) := b1
      clear b1
      go_wp2_with (first | (go_at_call 84; refine (HM.out _).mono ?_; rintro e w' ⟨rfl, rfl⟩) | fail)
      refine (H1.out _ B1.out).mono ?_
      rintro e w2 ⟨rfl, b2⟩
      have B2 : Hid (Below w.heap.size w w2) := bT B1.out b2
      clear b2 B1
      go_wp2_with fail
      refine (H2.out _ B2.out).mono ?_
      rintro e w3 ⟨rfl, b3⟩
      have B3 : Hid (Below w.heap.size w w3) := bT B2.out b3
      clear b3 B2
      go_wp2
      go_ret
      refine ⟨?_, B3.out⟩
      rw [HE.out]
      exact congrArg (fun x => Ending.returned (.string x)) (by rw [← E1.out]; exact app4 l _)
    · have HE : Hid (mtextI v = l ++ [46] ++ [by8 x, by8 y]) := by show mtextI v = _; rw [HT.out]; simp [hn]
      go_enter Tryz.func43, Tryz.ntmps43
      go_wp2_with fail
      refine (inBound0_any _ _).mono ?_
      rintro e w1 ⟨rfl, b1⟩
      have B1 : Hid (Below w.heap.size w w1) := b1
      clear b1
      go_wp2_with (first | (go_at_call 84; refine (HM.out _).mono ?_; rintro e w' ⟨rfl, rfl⟩) | fail)
      refine (H1.out _ B1.out).mono ?_
      rintro e w2 ⟨rfl, b2⟩
      have B2 : Hid (Below w.heap.size w w2) := bT B1.out b2
      clear b2 B1
      go_wp2_with fail
      refine (H2.out _ B2.out).mono ?_
      rintro e w3 ⟨rfl, b3⟩
      have B3 : Hid (Below w.heap.size w w3) := bT B2.out b3
      clear b3 B2
      go_wp2
      go_ret
      refine ⟨?_, B3.out⟩
      rw [HE.out]
      exact congrArg (fun x => Ending.returned (.string x)) (by rw [← E1.out]; exact app3 l _)

theorem imt_any (v : Int) (w : World) (ht : PowTab w) :
    Calls Tryz.prog 43 #[.int .i64 v] w fun e w' => e = .returned (.string ⟨(if isM v then mtextI v else []).toArray⟩) ∧ Below w.heap.size w w' := by
  cases h : isM v
  · have e : (if false = true then mtextI v else []) = [] := rfl
    rw [e]; clear e ht
    go_enter Tryz.func43, Tryz.ntmps43
    go_wp2_with fail
    refine (inBound0_any _ _).mono ?_
    rintro e w1 ⟨rfl, b1⟩
    go_wp2
    go_ret
    exact ⟨rfl, b1⟩
  · exact imt_in v h w ht

end Go.Proofs.YtanoklpffenljaaGreatDoor
namespace Go.Proofs.YtanoklpffenljaaGreatDoor
open Go.RowKit Go.Lib
set_option linter.unusedVariables false


/-- The text of money. -/
def mtext (v : Int) : List UInt8 := (if v < 0 then [45] else []) ++ Lib.decDigits (mag v / 100).toNat ++ [46] ++ [by8 (48 + mag v / 10 % 10), by8 (48 + mag v % 10)]
def mtextOf (v : Int) : List UInt8 := if isM v then mtext v else []

theorem conv2 (w : World) (a : Nat) (x y : Int) (hx0 : 0 ≤ x) (hx1 : x < 256) (hy0 : 0 ≤ y) (hy1 : y < 256) (c0 : w.cell? ⟨a, 0, none⟩ = some (.int .u8 x)) (c1 : w.cell? ⟨a, 1, none⟩ = some (.int .u8 y)) :
    Sem.run Tryz.prog (convert 89 9 (.slice (some ⟨a, 0, none⟩) 2 2)) w = .ok (.string ⟨[by8 x, by8 y].toArray⟩) w := by
  refine conv_row _ [by8 x, by8 y] a 2 (fun j hj => ?_)
  have : j = 0 ∨ j = 1 := by simp at hj; omega
  rcases this with rfl | rfl
  · rw [c0]; simp [by8_nat hx0 hx1]
  · rw [c1]; simp [by8_nat hy0 hy1]

theorem wrapI (n : Int) (h : -9223372036854775808 ≤ n ∧ n < 9223372036854775808) : IntKind.i64.wrap n = n := by
  have e : IntKind.i64.wrap n = if (true && decide (n % 18446744073709551616 ≥ 9223372036854775808)) = true then n % 18446744073709551616 - 18446744073709551616 else n % 18446744073709551616 := rfl
  rw [e]
  simp only [Bool.true_and, decide_eq_true_eq]
  split <;> omega
theorem wrap8 (n : Int) (h : 0 ≤ n ∧ n < 256) : IntKind.u8.wrap n = n := by
  have e : IntKind.u8.wrap n = if (false && decide (n % 256 ≥ 128)) = true then n % 256 - 256 else n % 256 := rfl
  rw [e]
  simp only [Bool.false_and, Bool.false_eq_true, if_false]
  omega

theorem app_neg (l : List UInt8) (x y : UInt8) : (⟨#[45]⟩ : ByteArray) ++ ⟨l.toArray⟩ ++ ⟨#[46]⟩ ++ ⟨#[x, y]⟩ = ⟨([45] ++ l ++ [46] ++ [x, y]).toArray⟩ := by
  rw [ba_app [45] l, ba_app _ [46], ba_app _ [x, y]]
theorem app_pos (l : List UInt8) (x y : UInt8) : (⟨#[]⟩ : ByteArray) ++ ⟨l.toArray⟩ ++ ⟨#[46]⟩ ++ ⟨#[x, y]⟩ = ⟨(l ++ [46] ++ [x, y]).toArray⟩ := by
  rw [ba_app [] l, ba_app _ [46], ba_app _ [x, y]]; rfl
theorem app_pos' (l : List UInt8) (x y : UInt8) : (⟨l.toArray⟩ : ByteArray) ++ ⟨#[46]⟩ ++ ⟨#[x, y]⟩ = ⟨(l ++ [46] ++ [x, y]).toArray⟩ := by
  rw [ba_app l [46], ba_app _ [x, y]]

set_option maxHeartbeats 1000000 in
theorem smt_in (v : Int) (h : isM v = true) (w : World) :
    Calls Tryz.prog 24 #[.int .i64 v] w fun e w' => e = .returned (.string ⟨(mtext v).toArray⟩) ∧ Below w.heap.size w w' := by
  have m0 : 0 ≤ mag v := by unfold mag; omega
  have m1 : mag v ≤ 1000000000000 := by have := isM_t h; unfold mag; omega
  have HD : Hid (∀ w, Calls Tryz.prog 22 #[.int .i64 (mag v / 100)] w fun e w' => e = .returned (.string ⟨(Lib.decDigits (mag v / 100).toNat).toArray⟩) ∧ Below w.heap.size w w') := by
    intro w
    have := dec_any (mag v / 100) (by omega) w
    rwa [show Lib.itoa (mag v / 100) = Lib.decDigits (mag v / 100).toNat by rw [Lib.itoa, if_neg (by omega)]] at this
  have HL : (Lib.decDigits (mag v / 100).toNat).length ≤ 20 := by
    rw [Lib.decDigits_length]
    by_cases hz : (mag v / 100).toNat = 0
    · rw [hz, Lib.nDigits_small (by decide)]; decide
    · have := Lib.numDigits_eq (mag v / 100).toNat (by omega) (by omega)
      split at this <;> omega
  have HM : Hid (∀ w, Calls Tryz.prog 56 #[.int .i64 v] w fun e w' => e = .returned (.int .i64 (mag v)) ∧ w' = w) := fun w => mabs_any v h w
  have HT : Hid (mtext v = (if v < 0 then [45] else []) ++ Lib.decDigits (mag v / 100).toNat ++ [46] ++ [by8 (48 + mag v / 10 % 10), by8 (48 + mag v % 10)]) := rfl
  generalize Lib.decDigits (mag v / 100).toNat = l at *
  generalize mag v = g at *
  have t1 : g.tdiv 100 = g / 100 := Int.tdiv_eq_ediv_of_nonneg m0
  have t2 : g.tdiv 10 = g / 10 := Int.tdiv_eq_ediv_of_nonneg m0
  have t3 : (g / 10).tmod 10 = g / 10 % 10 := Int.tmod_eq_emod_of_nonneg (by omega)
  have t4 : g.tmod 10 = g % 10 := Int.tmod_eq_emod_of_nonneg m0
  have x0 : 0 ≤ 48 + g / 10 % 10 := by omega
  have x1 : 48 + g / 10 % 10 < 58 := by omega
  have y0 : 0 ≤ 48 + g % 10 := by omega
  have y1 : 48 + g % 10 < 58 := by omega
  have q0 : 0 ≤ g / 100 := by omega
  have q1 : g / 100 ≤ 10000000000 := by omega
  have a0 : 0 ≤ g / 10 := by omega
  have a1 : g / 10 ≤ 100000000000 := by omega
  have b0 : 0 ≤ g / 10 % 10 := by omega
  have b1 : g / 10 % 10 < 10 := by omega
  have c0 : 0 ≤ g % 10 := by omega
  have c1 : g % 10 < 10 := by omega
  generalize g / 100 = q at *
  generalize g / 10 = A at *
  generalize A % 10 = B at *
  generalize g % 10 = C at *
  have w1 := wrapI q (by omega)
  have w2 := wrapI A (by omega)
  have w3 := wrapI B (by omega)
  have w4 := wrapI C (by omega)
  have w5 := wrapI (48 + B) (by omega)
  have w6 := wrapI (48 + C) (by omega)
  have w7 := wrap8 (48 + B) (by omega)
  have w8 := wrap8 (48 + C) (by omega)
  generalize hx : 48 + B = x at *
  generalize hy : 48 + C = y at *
  have hcv := fun (w : World) (a : Nat) => conv2 w a x y (by omega) (by omega) (by omega) (by omega)
  by_cases hn : v < 0
  · have HE : Hid (mtext v = [45] ++ l ++ [46] ++ [by8 x, by8 y]) := by show mtext v = _; rw [HT.out]; simp [hn]
    go_enter Tryz.func24, Tryz.ntmps24
    go_wp2_with (first | (go_at_call 55; refine (l01Money_any _ _).mono ?_; rintro e w' ⟨rfl, rfl⟩) | (go_at_call 56; refine (HM.out _).mono ?_; rintro e w' ⟨rfl, rfl⟩))
    go_region_with (go_at_call 22; refine (HD.out _).mono ?_; rintro e w1 ⟨rfl, hb⟩; obtain ⟨hc, hf⟩ := bcell hb; have hz := hb.size; have HB : Hid (Below _ _ w1) := hb; clear hb)
    all_goals
      go_wp2
      go_ret
      refine ⟨?_, ?_⟩
      · rw [HE.out]
        first
        | exact congrArg (fun x => Ending.returned (.string x)) (app_neg l (by8 x) (by8 y))
        | exact congrArg (fun x => Ending.returned (.string x)) (app_pos' l (by8 x) (by8 y))
      · first
        | exact bA (bT (Below.refl _ _).drew HB.out) _
        | exact bT (bA0 _ _).drew HB.out
        | exact bT (bA (Below.refl _ _).drew _) HB.out
  · have HE : Hid (mtext v = l ++ [46] ++ [by8 x, by8 y]) := by show mtext v = _; rw [HT.out]; simp [hn]
    go_enter Tryz.func24, Tryz.ntmps24
    go_wp2_with (first | (go_at_call 55; refine (l01Money_any _ _).mono ?_; rintro e w' ⟨rfl, rfl⟩) | (go_at_call 56; refine (HM.out _).mono ?_; rintro e w' ⟨rfl, rfl⟩))
    go_region_with (go_at_call 22; refine (HD.out _).mono ?_; rintro e w1 ⟨rfl, hb⟩; obtain ⟨hc, hf⟩ := bcell hb; have hz := hb.size; have HB : Hid (Below _ _ w1) := hb; clear hb)
    all_goals
      go_wp2
      go_ret
      refine ⟨?_, ?_⟩
      · rw [HE.out]
        first
        | exact congrArg (fun x => Ending.returned (.string x)) (app_pos l (by8 x) (by8 y))
        | exact congrArg (fun x => Ending.returned (.string x)) (app_pos' l (by8 x) (by8 y))
      · first
        | exact bA (bT (Below.refl _ _).drew HB.out) _
        | exact bT (bA0 _ _).drew HB.out
        | exact bT (bA (Below.refl _ _).drew _) HB.out

theorem smt_any (v : Int) (w : World) :
    Calls Tryz.prog 24 #[.int .i64 v] w fun e w' => e = .returned (.string ⟨(mtextOf v).toArray⟩) ∧ Below w.heap.size w w' := by
  cases h : isM v
  · have e : mtextOf v = [] := by simp [mtextOf, h]
    rw [e]; clear e
    go_enter Tryz.func24, Tryz.ntmps24
    go_wp2_with (go_at_call 55; refine (l01Money_any _ _).mono ?_; rintro e w' ⟨rfl, rfl⟩)
    go_ret
    exact ⟨rfl, Below.refl _ _⟩
  · rw [show mtextOf v = mtext v by simp [mtextOf, h]]
    exact smt_in v h w

end Go.Proofs.YtanoklpffenljaaGreatDoor
