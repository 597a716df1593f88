/-
  MAY TWO STATIONS HAVE TWO CHANNELS? As the model answers it; and is a number in a list?
-/
import Derived.Test.YtgfclllfkpblnaaPa
import Derived.Test.YtgfclllfkpblnaaAm
import Derived.Test.YtgfclllfkpblnaaAz
namespace Go.Proofs.Ytgfclllfkpblnaa
open Go.RowKit
set_option linter.unusedVariables false


/-- How far a number is from 0. -/
def absI (v : Int) : Int := if v < 0 then -v else v
set_option maxHeartbeats 400000 in
theorem abs_any (v : Int) (w : World) (h1 : -1000 ≤ v) (h2 : v ≤ 1000) : Calls Try.prog 41 #[.int .i64 v] w fun e w' => e = .returned (.int .i64 (absI v)) ∧ w' = w := by
  unfold absI
  by_cases h : v < 0
  · rw [if_pos h]
    go_enter Try.func41, Try.ntmps41
    go_wp2
    go_ret
    exact ⟨rfl, rfl⟩
  · rw [if_neg h]
    go_enter Try.func41, Try.ntmps41
    go_wp2
    go_ret
    exact ⟨rfl, rfl⟩

/-- May a have the channel c, where b has d? As the first pair of the two says. -/
def mayL (ps : List LPr) (a c b d : Int) : Bool :=
  match ps with
  | [] => true
  | p :: r => if (p.1 = a ∧ p.2.1 = b) ∨ (p.1 = b ∧ p.2.1 = a) then decide (c ≠ d ∧ (p.2.2 = 1 ∨ absI (c - d) ≠ 1)) else mayL r a c b d
theorem mayL_at (ps : List LPr) (a c b d : Int) (k : Nat) (h : k < ps.length) : mayL (ps.drop k) a c b d = if (ps[k].1 = a ∧ ps[k].2.1 = b) ∨ (ps[k].1 = b ∧ ps[k].2.1 = a) then decide (c ≠ d ∧ (ps[k].2.2 = 1 ∨ absI (c - d) ≠ 1)) else mayL (ps.drop (k + 1)) a c b d := by
  rw [← List.getElem_cons_drop (h := h)]
  rfl

set_option maxRecDepth 100000 in
set_option maxHeartbeats 2000000 in
/-- spec.l05May. -/
theorem may_any (sl : Option Addr) (n cap : Nat) (sl2 : Option Addr) (cap2 : Nat) (ps : List LPr) (a c b d : Int) (w : World) (hn : ps.length ≤ 1048576) (hc : 0 ≤ c ∧ c ≤ 1000) (hd : 0 ≤ d ∧ d ≤ 1000) (hp : Prs w sl2 ps) :
    Calls Try.prog 32 #[TV sl n cap sl2 ps.length cap2, .int .i64 a, .int .i64 c, .int .i64 b, .int .i64 d] w fun e w' => e = .returned (.bool (mayL ps a c b d)) ∧ Below w.heap.size w w' := by
  have HT := Lib.hid (TabAt.new w sl n cap sl2 ps.length cap2)
  have B0 := Lib.hid (bA0 w (.cells #[.slice sl n cap, .slice sl2 ps.length cap2] 26))
  have HP := Lib.hid hp
  obtain ⟨c1, c2⟩ := hc
  obtain ⟨d1, d2⟩ := hd
  clear hp
  generalize hR : mayL ps a c b d = r
  have HR := Lib.hid hR
  clear hR
  generalize hN : ps.length = m at *
  have HN := Lib.hid hN
  clear hN
  have EA : Hid (∀ W, Calls Try.prog 41 #[.int .i64 (c - d)] W fun e w' => e = .returned (.int .i64 (absI (c - d))) ∧ w' = W) := fun W => abs_any (c - d) W (by omega) (by omega)
  go_enter Try.func32, Try.ntmps32
  go_wp2
  generalize w.alloc (.cells #[.slice sl n cap, .slice sl2 m cap2] 26) = w0 at *
  go_loopw [11] (fun i wr => ∃ k : Nat, i = .int .i64 k ∧ k ≤ m ∧ Hid (r = mayL (ps.drop k) a c b d) ∧ Hid (Below w0.heap.size w0 wr)) (fun i _ => m - (intOf i).toNat)
  case atStart => exact ⟨0, rfl, Nat.zero_le _, HR.out.symm, Below.refl _ _⟩
  case round =>
    obtain ⟨k, rfl, hk, HM, H2⟩ := hrel
    have hk0 : (0 : Int) ≤ (k : Int) := by omega
    have T2 := Lib.hid (HT.out.below H2.out)
    obtain ⟨t0, t1⟩ := T2.out.cells
    have tl := T2.out.lt
    have DW := Lib.hid (bT B0.out H2.out)
    by_cases h1 : k < m
    · have h1' : (k : Int) < (m : Int) := by omega
      have hlt : k < ps.length := by rw [HN.out]; exact h1
      obtain ⟨g, o, rfl, Z0⟩ : ∃ c o, sl2 = some ⟨c, o, none⟩ ∧ PrAt w c o ps := by
        rcases HP.out with e | h
        · rw [e] at hlt; simp at hlt
        · exact h
      have g0 := (DW.out.cell Z0.lt).trans (Z0.cell k hlt).1
      have g1 := (DW.out.cell Z0.lt).trans (Z0.cell k hlt).2.1
      have g2 := (DW.out.cell Z0.lt).trans (Z0.cell k hlt).2.2
      have MA := Lib.hid (HM.out.trans (mayL_at ps a c b d k hlt))
      obtain ⟨x, y, q, hp⟩ : ∃ x y q, ps[k] = (x, y, q) := ⟨_, _, _, rfl⟩
      rw [hp] at g0 g1 g2 MA
      dsimp only at g0 g1 g2 MA
      have B5 := Lib.hid (bA H2.out (.cells #[.int .i64 x, .int .i64 y, .int .i64 q] 69))
      have B6 := Lib.hid (bA DW.out (.cells #[.int .i64 x, .int .i64 y, .int .i64 q] 69))
      have HA9 := Lib.hid (Eq.refl (absI (c - d)))
      have hwr := H2.out.size
      clear hp hlt Z0 HM
      by_cases xa : x = a
      · have e_xa : (x == a) = true := by simp [xa]
        by_cases yb : y = b
        · have e_yb : (y == b) = true := by simp [yb]
          have hM : (x = a ∧ y = b) ∨ (x = b ∧ y = a) := .inl ⟨xa, yb⟩
          clear xa yb
          have MB := Lib.hid (MA.out.trans (if_pos hM))
          by_cases cd : c = d
          · have R := Lib.hid (show r = false by rw [MB.out]; simp [cd])
            have cd' : (c != d) = false := by simp [cd]
            clear MA MB hM EA
            go_wp2
            go_ret
            exact ⟨by rw [R.out]; rfl, B6.out⟩
          · have cd' : (c != d) = true := by simp [cd]
            by_cases q1 : q = 1
            · have R := Lib.hid (show r = true by rw [MB.out]; simp [cd, q1])
              have q1' : (q == 1) = true := by simp [q1]
              clear MA MB hM EA q1
              go_wp2
              go_ret
              exact ⟨by rw [R.out]; rfl, B6.out⟩
            · have q1' : (q == 1) = false := by simp [q1]
              by_cases a1 : absI (c - d) = 1
              · have R := Lib.hid (show r = false by rw [MB.out]; simp [cd, q1, a1])
                have a1' : (absI (c - d) != 1) = false := by simp [a1]
                generalize absI (c - d) = A at *
                clear MA MB hM q1 a1
                go_wp2_with fail
                refine (EA.out _).mono ?_
                rintro e w5 ⟨rfl, rfl⟩
                go_wp2
                go_ret
                exact ⟨by rw [R.out]; rfl, B6.out⟩
              · have R := Lib.hid (show r = true by rw [MB.out]; simp [cd, q1, a1])
                have a1' : (absI (c - d) != 1) = true := by simp [a1]
                generalize absI (c - d) = A at *
                clear MA MB hM q1 a1
                go_wp2_with fail
                refine (EA.out _).mono ?_
                rintro e w5 ⟨rfl, rfl⟩
                go_wp2
                go_ret
                exact ⟨by rw [R.out]; rfl, B6.out⟩
        · have e_yb : (y == b) = false := by simp [yb]
          have hM : ¬ ((x = a ∧ y = b) ∨ (x = b ∧ y = a)) := by rintro (⟨-, h⟩ | ⟨h3, h4⟩) <;> omega
          by_cases xb : x = b
          · have e_xb : (x == b) = true := by simp [xb]
            have e_ya : (y == a) = false := by simp; omega
            clear xa yb xb
            have MB := Lib.hid (MA.out.trans (if_neg hM))
            clear MA hM EA
            go_wp2
            go_roundw
            case rel => exact ⟨k + 1, by go_num, by omega, MB, B5⟩
            case measure => simp [intOf]; omega
          · have e_xb : (x == b) = false := by simp [xb]
            clear xa yb xb
            have MB := Lib.hid (MA.out.trans (if_neg hM))
            clear MA hM EA
            go_wp2
            go_roundw
            case rel => exact ⟨k + 1, by go_num, by omega, MB, B5⟩
            case measure => simp [intOf]; omega
      · have e_xa : (x == a) = false := by simp [xa]
        by_cases xb : x = b
        · have e_xb : (x == b) = true := by simp [xb]
          by_cases ya : y = a
          · have e_ya : (y == a) = true := by simp [ya]
            have hM : (x = a ∧ y = b) ∨ (x = b ∧ y = a) := .inr ⟨xb, ya⟩
            clear xa xb ya
            have MB := Lib.hid (MA.out.trans (if_pos hM))
            by_cases cd : c = d
            · have R := Lib.hid (show r = false by rw [MB.out]; simp [cd])
              have cd' : (c != d) = false := by simp [cd]
              clear MA MB hM EA
              go_wp2
              go_ret
              exact ⟨by rw [R.out]; rfl, B6.out⟩
            · have cd' : (c != d) = true := by simp [cd]
              by_cases q1 : q = 1
              · have R := Lib.hid (show r = true by rw [MB.out]; simp [cd, q1])
                have q1' : (q == 1) = true := by simp [q1]
                clear MA MB hM EA q1
                go_wp2
                go_ret
                exact ⟨by rw [R.out]; rfl, B6.out⟩
              · have q1' : (q == 1) = false := by simp [q1]
                by_cases a1 : absI (c - d) = 1
                · have R := Lib.hid (show r = false by rw [MB.out]; simp [cd, q1, a1])
                  have a1' : (absI (c - d) != 1) = false := by simp [a1]
                  generalize absI (c - d) = A at *
                  clear MA MB hM q1 a1
                  go_wp2_with fail
                  refine (EA.out _).mono ?_
                  rintro e w5 ⟨rfl, rfl⟩
                  go_wp2
                  go_ret
                  exact ⟨by rw [R.out]; rfl, B6.out⟩
                · have R := Lib.hid (show r = true by rw [MB.out]; simp [cd, q1, a1])
                  have a1' : (absI (c - d) != 1) = true := by simp [a1]
                  generalize absI (c - d) = A at *
                  clear MA MB hM q1 a1
                  go_wp2_with fail
                  refine (EA.out _).mono ?_
                  rintro e w5 ⟨rfl, rfl⟩
                  go_wp2
                  go_ret
                  exact ⟨by rw [R.out]; rfl, B6.out⟩
          · have e_ya : (y == a) = false := by simp [ya]
            have hM : ¬ ((x = a ∧ y = b) ∨ (x = b ∧ y = a)) := by rintro (⟨h, -⟩ | ⟨-, h⟩) <;> omega
            clear xa xb ya
            have MB := Lib.hid (MA.out.trans (if_neg hM))
            clear MA hM EA
            go_wp2
            go_roundw
            case rel => exact ⟨k + 1, by go_num, by omega, MB, B5⟩
            case measure => simp [intOf]; omega
        · have e_xb : (x == b) = false := by simp [xb]
          have hM : ¬ ((x = a ∧ y = b) ∨ (x = b ∧ y = a)) := by rintro (⟨h, -⟩ | ⟨h, -⟩) <;> omega
          clear xa xb
          have MB := Lib.hid (MA.out.trans (if_neg hM))
          clear MA hM EA
          go_wp2
          go_roundw
          case rel => exact ⟨k + 1, by go_num, by omega, MB, B5⟩
          case measure => simp [intOf]; omega
    · have h1' : ¬ (k : Int) < (m : Int) := by omega
      have R := Lib.hid (show r = true by rw [HM.out, List.drop_eq_nil_of_le (by rw [HN.out]; omega)]; rfl)
      clear HM
      go_wp2
      go_ret
      exact ⟨by rw [R.out]; rfl, DW.out⟩

end Go.Proofs.Ytgfclllfkpblnaa
