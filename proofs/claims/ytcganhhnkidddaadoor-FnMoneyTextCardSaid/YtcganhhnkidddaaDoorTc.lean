/-
  THE TEXT OF MONEY, AS THE PROGRAM TELLS IT.
-/
import Derived.Test.YtcganhhnkidddaaDoorTa
namespace Go.Proofs.YtcganhhnkidddaaDoor
open Go.RowKit Go.Lib
set_option linter.unusedVariables false

def mtextI (v : Int) : List UInt8 := (if v < 0 then [45] else []) ++ Lib.decDigits (mag v / 100).toNat ++ [46] ++ [by8 (48 + mag v / 10 % 10), by8 (48 + mag v % 10)]
theorem two_one (u : Nat) (h : u < 10) : [48] ++ Lib.decDigits u = [by8 (48 + (u : Int) / 10 % 10), by8 (48 + (u : Int) % 10)] := by
  rw [Lib.decDigits_one h]
  unfold by8
  rw [show (48 + (u : Int) / 10 % 10).toNat = 48 by omega, show (48 + (u : Int) % 10).toNat = 48 + u by omega]
  rfl
theorem two_two (u : Nat) (h : ¬ u < 10) (h1 : u < 100) : Lib.decDigits u = [by8 (48 + (u : Int) / 10 % 10), by8 (48 + (u : Int) % 10)] := by
  rw [Lib.decDigits_two h h1]
  unfold by8
  rw [show (48 + (u : Int) / 10 % 10).toNat = 48 + u / 10 by omega, show (48 + (u : Int) % 10).toNat = 48 + u % 10 by omega]

theorem app4 (l r : List UInt8) : (⟨#[45]⟩ : ByteArray) ++ ⟨l.toArray⟩ ++ ⟨#[46]⟩ ++ ⟨r.toArray⟩ = ⟨([45] ++ l ++ [46] ++ r).toArray⟩ := by
  rw [ba_app [45] l, ba_app _ [46], ba_app _ r]
theorem app3 (l r : List UInt8) : (⟨#[]⟩ : ByteArray) ++ ⟨l.toArray⟩ ++ ⟨#[46]⟩ ++ ⟨r.toArray⟩ = ⟨(l ++ [46] ++ r).toArray⟩ := by
  rw [ba_app [] l, ba_app _ [46], ba_app _ r]; rfl

set_option maxHeartbeats 1000000 in
theorem imt_in (v : Int) (h : isM v = true) (w : World) (ht : PowTab w) :
    Calls Tryd.prog 7 #[.int .i64 v] w fun e w' => e = .returned (.string ⟨(mtextI v).toArray⟩) ∧ Below w.heap.size w w' := by
  have m0 : 0 ≤ mag v := by unfold mag; omega
  have m1 : mag v ≤ 1000000000000 := by have := isM_t h; unfold mag; omega
  have HM : Hid (∀ w, Calls Tryd.prog 16 #[.int .i64 v] w fun e w' => e = .returned (.int .u64 (mag v)) ∧ w' = w) := fun w => mag_any v h w
  have HP : Hid (PowTab w) := ht
  have H1 : Hid (∀ w1, Below w.heap.size w w1 → Calls Tryd.prog 17 #[.int .u64 (mag v % 100), .int .i64 10] w1 fun e w' => e = .returned (.string ⟨(Lib.decDigits (mag v % 100).toNat).toArray⟩) ∧ Below w1.heap.size w1 w') := fun w1 hb => fu_any _ (by omega) (by omega) w1 (HP.out.below hb)
  have H2 : Hid (∀ w1, Below w.heap.size w w1 → Calls Tryd.prog 17 #[.int .u64 (mag v / 100), .int .i64 10] w1 fun e w' => e = .returned (.string ⟨(Lib.decDigits (mag v / 100).toNat).toArray⟩) ∧ Below w1.heap.size w1 w') := fun w1 hb => fu_any _ (by omega) (by omega) w1 (HP.out.below hb)
  have HL : (Lib.decDigits (mag v / 100).toNat).length ≤ 20 := by
    rw [Lib.decDigits_length]
    by_cases hz : (mag v / 100).toNat = 0
    · rw [hz, Lib.nDigits_small (by decide)]; decide
    · have := Lib.numDigits_eq (mag v / 100).toNat (by omega) (by omega)
      split at this <;> omega
  have HT : Hid (mtextI v = (if v < 0 then [45] else []) ++ Lib.decDigits (mag v / 100).toNat ++ [46] ++ [by8 (48 + mag v / 10 % 10), by8 (48 + mag v % 10)]) := rfl
  clear ht
  have ex : mag v / 10 % 10 = (((mag v % 100).toNat : Int)) / 10 % 10 := by omega
  have ey : mag v % 10 = (((mag v % 100).toNat : Int)) % 10 := by omega
  have hu : (mag v % 100).toNat < 100 := by omega
  rw [ex, ey] at HT
  clear ex ey
  generalize (mag v % 100).toNat = u at *
  generalize Lib.decDigits (mag v / 100).toNat = l at *
  have g0 : 0 ≤ mag v % 100 := by omega
  have g1 : mag v % 100 < 100 := by omega
  generalize mag v = g at *
  by_cases h10 : u < 10
  · have e1 := two_one u h10
    have e2 : (Lib.decDigits u).length = 1 := by rw [Lib.decDigits_length, Lib.nDigits_small h10]
    generalize 48 + (u : Int) / 10 % 10 = x at *
    generalize 48 + (u : Int) % 10 = y at *
    generalize Lib.decDigits u = lc at *
    have E1 : Hid ([48] ++ lc = [by8 x, by8 y]) := e1
    clear e1
    by_cases hn : v < 0
    · have HE : Hid (mtextI v = [45] ++ l ++ [46] ++ [by8 x, by8 y]) := by show mtextI v = _; rw [HT.out]; simp [hn]
      go_enter Tryd.func7, Tryd.ntmps7
      go_wp2_with fail
      refine (inBound0_any _ _).mono ?_
      rintro e w1 ⟨rfl, b1⟩
      have B1 : Hid (Below w.heap.size w w1) := b1
      clear b1
      go_wp2_with (first | (go_at_call 16; refine (HM.out _).mono ?_; rintro e w' ⟨rfl, rfl⟩) | fail)
      refine (H1.out _ B1.out).mono ?_
      rintro e w2 ⟨rfl, b2⟩
      have B2 : Hid (Below w.heap.size w w2) := bT B1.out b2
      clear b2 B1
      go_wp2_with fail
      refine (H2.out _ B2.out).mono ?_
      rintro e w3 ⟨rfl, b3⟩
      have B3 : Hid (Below w.heap.size w w3) := bT B2.out b3
      clear b3 B2
      go_wp2
      go_ret
      refine ⟨?_, B3.out⟩
      rw [HE.out]
      exact congrArg (fun x => Ending.returned (.string x)) (by rw [ba_app [48] lc, E1.out]; exact app4 l _)
    · have HE : Hid (mtextI v = l ++ [46] ++ [by8 x, by8 y]) := by show mtextI v = _; rw [HT.out]; simp [hn]
      go_enter Tryd.func7, Tryd.ntmps7
      go_wp2_with fail
      refine (inBound0_any _ _).mono ?_
      rintro e w1 ⟨rfl, b1⟩
      have B1 : Hid (Below w.heap.size w w1) := b1
      clear b1
      go_wp2_with (first | (go_at_call 16; refine (HM.out _).mono ?_; rintro e w' ⟨rfl, rfl⟩) | fail)
      refine (H1.out _ B1.out).mono ?_
      rintro e w2 ⟨rfl, b2⟩
      have B2 : Hid (Below w.heap.size w w2) := bT B1.out b2
      clear b2 B1
      go_wp2_with fail
      refine (H2.out _ B2.out).mono ?_
      rintro e w3 ⟨rfl, b3⟩
      have B3 : Hid (Below w.heap.size w w3) := bT B2.out b3
      clear b3 B2
      go_wp2
      go_ret
      refine ⟨?_, B3.out⟩
      rw [HE.out]
      exact congrArg (fun x => Ending.returned (.string x)) (by rw [ba_app [48] lc, E1.out]; exact app3 l _)
  · have e1 := two_two u h10 hu
    have e2 : (Lib.decDigits u).length = 2 := by rw [e1]; rfl
    generalize 48 + (u : Int) / 10 % 10 = x at *
    generalize 48 + (u : Int) % 10 = y at *
    generalize Lib.decDigits u = lc at *
    have E1 : Hid (lc = [by8 x, by8 y]) := e1
    clear e1
    by_cases hn : v < 0
    · have HE : Hid (mtextI v = [45] ++ l ++ [46] ++ [by8 x, by8 y]) := by show mtextI v = _; rw [HT.out]; simp [hn]
      go_enter Tryd.func7, Tryd.ntmps7
      go_wp2_with fail
      refine (inBound0_any _ _).mono ?_
      rintro e w1 ⟨rfl, b1⟩
      have B1 : Hid (Below w.heap.size w w1) := b1
      clear b1
      go_wp2_with (first | (go_at_call 16; refine (HM.out _).mono ?_; rintro e w' ⟨rfl, rfl⟩) | fail)
      refine (H1.out _ B1.out).mono ?_
      rintro e w2 ⟨rfl, b2⟩
      have B2 : Hid (Below w.heap.size w w2) := bT B1.out b2
      clear b2 B1
      go_wp2_with fail
      refine (H2.out _ B2.out).mono ?_
      rintro e w3 ⟨rfl, b3⟩
      have B3 : Hid (Below w.heap.size w w3) := bT B2.out b3
      clear b3 B2
      go_wp2
      go_ret
      refine ⟨?_, B3.out⟩
      rw [HE.out]
      exact congrArg (fun x => Ending.returned (.string x)) (by rw [← E1.out]; exact app4 l _)
    · have HE : Hid (mtextI v = l ++ [46] ++ [by8 x, by8 y]) := by show mtextI v = _; rw [HT.out]; simp [hn]
      go_enter Tryd.func7, Tryd.ntmps7
      go_wp2_with fail
      refine (inBound0_any _ _).mono ?_
      rintro e w1 ⟨rfl, b1⟩
      have B1 : Hid (Below w.heap.size w w1) := b1
      clear b1
      go_wp2_with (first | (go_at_call 16; refine (HM.out _).mono ?_; rintro e w' ⟨rfl, rfl⟩) | fail)
      refine (H1.out _ B1.out).mono ?_
      rintro e w2 ⟨rfl, b2⟩
      have B2 : Hid (Below w.heap.size w w2) := bT B1.out b2
      clear b2 B1
      go_wp2_with fail
      refine (H2.out _ B2.out).mono ?_
      rintro e w3 ⟨rfl, b3⟩
      have B3 : Hid (Below w.heap.size w w3) := bT B2.out b3
      clear b3 B2
      go_wp2
      go_ret
      refine ⟨?_, B3.out⟩
      rw [HE.out]
      exact congrArg (fun x => Ending.returned (.string x)) (by rw [← E1.out]; exact app3 l _)

theorem imt_any (v : Int) (w : World) (ht : PowTab w) :
    Calls Tryd.prog 7 #[.int .i64 v] w fun e w' => e = .returned (.string ⟨(if isM v then mtextI v else []).toArray⟩) ∧ Below w.heap.size w w' := by
  cases h : isM v
  · have e : (if false = true then mtextI v else []) = [] := rfl
    rw [e]; clear e ht
    go_enter Tryd.func7, Tryd.ntmps7
    go_wp2_with fail
    refine (inBound0_any _ _).mono ?_
    rintro e w1 ⟨rfl, b1⟩
    go_wp2
    go_ret
    exact ⟨rfl, b1⟩
  · exact imt_in v h w ht

end Go.Proofs.YtcganhhnkidddaaDoor
