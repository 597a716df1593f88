/-
  MAY TWO STATIONS HAVE TWO CHANNELS? As the model answers it; and is a number in a list?
  MAY A PLACE STAND BESIDE OTHERS? As the program answers it, by a map of the kinds.
  ROWS PUT TOGETHER: slices.Grow of none, slices.Concat, at places.
  IS A PLACE AMONG PLACES? slices.Index and slices.Contains at places.
  THE LOOP THAT SEEKS A PLAN: impl.tryChoices.
-/
import Derived.Test.YtdmfljejlhlbnaaJad
import Derived.Test.YtdmfljejlhlbnaaJaf
import Derived.Test.YtdmfljejlhlbnaaJac
import Derived.Test.YtdmfljejlhlbnaaJae
import Derived.Test.YtdmfljejlhlbnaaJah
import Derived.Lib.AppendZerosOnto
import Derived.Deep.Upon
import Derived.WalkMore
namespace Go.Proofs.Ytdmfljejlhlbnaa
open Go.RowKit
set_option linter.unusedVariables false

set_option maxHeartbeats 1000000 in
/-- spec.l01Has. -/
theorem lh_any (sl : Option Addr) (cap : Nat) (zs : List Int) (x : Int) (w : World) (hn : zs.length ≤ maxLen) (hz : Ints w sl zs) :
    Calls Try.prog 68 #[.slice sl zs.length cap, .int .i64 x] w fun e w' => e = .returned (.bool (B (x ∈ zs))) ∧ w' = w := by
  unfold maxLen at hn
  have HZ := Lib.hid hz
  clear hz
  generalize hR : B (x ∈ zs) = r
  have HR := Lib.hid hR
  clear hR
  generalize hN : zs.length = n at *
  have HN := Lib.hid hN
  clear hN
  go_enter Try.func68, Try.ntmps68
  go_wp2
  go_loopw [5] (fun i wr => ∃ k : Nat, i = .int .i64 k ∧ k ≤ n ∧ Hid (NotIn zs x k) ∧ wr = w) (fun i _ => n - (intOf i).toNat)
  case atStart => exact ⟨0, rfl, Nat.zero_le _, fun i h => absurd h (Nat.not_lt_zero _), rfl⟩
  case round =>
    obtain ⟨k, rfl, hk, NI, rfl⟩ := hrel
    have hk0 : (0 : Int) ≤ (k : Int) := by omega
    by_cases h1 : k < n
    · have h1' : (k : Int) < (n : Int) := by omega
      have hlt : k < zs.length := by rw [HN.out]; exact h1
      obtain ⟨c, o, rfl, ZI⟩ : ∃ c o, sl = some ⟨c, o, none⟩ ∧ IntsAt wr c o zs := by
        rcases HZ.out with e | h
        · rw [e] at hlt; simp at hlt
        · exact h
      have hc := ZI.2 k hlt
      by_cases hx : zs.getD k 0 = x
      · have R := Lib.hid (show r = true by rw [← HR.out]; exact B_yes (by rw [← hx]; simp [hlt]))
        have hx' : (zs.getD k 0 == x) = true := beq_iff_eq.2 hx
        generalize zs.getD k 0 = z at *
        clear hlt ZI hx
        go_wp2
        go_ret
        exact ⟨by rw [R.out]; rfl, rfl⟩
      · have hx' : (zs.getD k 0 == x) = false := beq_eq_false_iff_ne.2 hx
        have NI2 := Lib.hid (show NotIn zs x (k + 1) from fun i hi => by
          by_cases e : i = k
          · subst e; exact hx
          · exact NI.out i (by omega))
        generalize zs.getD k 0 = z at *
        clear hlt ZI hx NI
        go_wp2
        go_roundw
        case rel => exact ⟨k + 1, by go_num, by omega, NI2, trivial⟩
        case measure => simp [intOf]; omega
    · have h1' : ¬ (k : Int) < (n : Int) := by omega
      have R := Lib.hid (show r = false by
        rw [← HR.out]
        refine B_no (notIn_mem ?_)
        have := NI.out
        rwa [show k = zs.length by rw [HN.out]; omega] at this)
      clear NI
      go_wp2
      go_ret
      exact ⟨by rw [R.out]; rfl, rfl⟩

/-- How far a number is from 0. -/
def absI (v : Int) : Int := if v < 0 then -v else v
set_option maxHeartbeats 400000 in
theorem abs_any (v : Int) (w : World) (h1 : -1000 ≤ v) (h2 : v ≤ 1000) : Calls Try.prog 135 #[.int .i64 v] w fun e w' => e = .returned (.int .i64 (absI v)) ∧ w' = w := by
  unfold absI
  by_cases h : v < 0
  · rw [if_pos h]
    go_enter Try.func135, Try.ntmps135
    go_wp2
    go_ret
    exact ⟨rfl, rfl⟩
  · rw [if_neg h]
    go_enter Try.func135, Try.ntmps135
    go_wp2
    go_ret
    exact ⟨rfl, rfl⟩

/-- May a have the channel c, where b has d? As the first pair of the two says. -/
def mayL (ps : List LPr) (a c b d : Int) : Bool :=
  match ps with
  | [] => true
  | p :: r => if (p.1 = a ∧ p.2.1 = b) ∨ (p.1 = b ∧ p.2.1 = a) then decide (c ≠ d ∧ (p.2.2 = 1 ∨ absI (c - d) ≠ 1)) else mayL r a c b d
theorem mayL_at (ps : List LPr) (a c b d : Int) (k : Nat) (h : k < ps.length) : mayL (ps.drop k) a c b d = if (ps[k].1 = a ∧ ps[k].2.1 = b) ∨ (ps[k].1 = b ∧ ps[k].2.1 = a) then decide (c ≠ d ∧ (ps[k].2.2 = 1 ∨ absI (c - d) ≠ 1)) else mayL (ps.drop (k + 1)) a c b d := by
  rw [← List.getElem_cons_drop (h := h)]
  rfl

set_option maxRecDepth 100000 in
set_option maxHeartbeats 2000000 in
/-- spec.l05May. -/
theorem may_any (sl : Option Addr) (n cap : Nat) (sl2 : Option Addr) (cap2 : Nat) (ps : List LPr) (a c b d : Int) (w : World) (hn : ps.length ≤ 1048576) (hc : 0 ≤ c ∧ c ≤ 1000) (hd : 0 ≤ d ∧ d ≤ 1000) (hp : Prs w sl2 ps) :
    Calls Try.prog 91 #[TV sl n cap sl2 ps.length cap2, .int .i64 a, .int .i64 c, .int .i64 b, .int .i64 d] w fun e w' => e = .returned (.bool (mayL ps a c b d)) ∧ Below w.heap.size w w' := by
  have HT := Lib.hid (TabAt.new w sl n cap sl2 ps.length cap2)
  have B0 := Lib.hid (bA0 w (.cells #[.slice sl n cap, .slice sl2 ps.length cap2] 26))
  have HP := Lib.hid hp
  obtain ⟨c1, c2⟩ := hc
  obtain ⟨d1, d2⟩ := hd
  clear hp
  generalize hR : mayL ps a c b d = r
  have HR := Lib.hid hR
  clear hR
  generalize hN : ps.length = m at *
  have HN := Lib.hid hN
  clear hN
  have EA : Hid (∀ W, Calls Try.prog 135 #[.int .i64 (c - d)] W fun e w' => e = .returned (.int .i64 (absI (c - d))) ∧ w' = W) := fun W => abs_any (c - d) W (by omega) (by omega)
  go_enter Try.func91, Try.ntmps91
  go_wp2
  generalize w.alloc (.cells #[.slice sl n cap, .slice sl2 m cap2] 26) = w0 at *
  go_loopw [11] (fun i wr => ∃ k : Nat, i = .int .i64 k ∧ k ≤ m ∧ Hid (r = mayL (ps.drop k) a c b d) ∧ Hid (Below w0.heap.size w0 wr)) (fun i _ => m - (intOf i).toNat)
  case atStart => exact ⟨0, rfl, Nat.zero_le _, HR.out.symm, Below.refl _ _⟩
  case round =>
    obtain ⟨k, rfl, hk, HM, H2⟩ := hrel
    have hk0 : (0 : Int) ≤ (k : Int) := by omega
    have T2 := Lib.hid (HT.out.below H2.out)
    obtain ⟨t0, t1⟩ := T2.out.cells
    have tl := T2.out.lt
    have DW := Lib.hid (bT B0.out H2.out)
    by_cases h1 : k < m
    · have h1' : (k : Int) < (m : Int) := by omega
      have hlt : k < ps.length := by rw [HN.out]; exact h1
      obtain ⟨g, o, rfl, Z0⟩ : ∃ c o, sl2 = some ⟨c, o, none⟩ ∧ PrAt w c o ps := by
        rcases HP.out with e | h
        · rw [e] at hlt; simp at hlt
        · exact h
      have g0 := (DW.out.cell Z0.lt).trans (Z0.cell k hlt).1
      have g1 := (DW.out.cell Z0.lt).trans (Z0.cell k hlt).2.1
      have g2 := (DW.out.cell Z0.lt).trans (Z0.cell k hlt).2.2
      have MA := Lib.hid (HM.out.trans (mayL_at ps a c b d k hlt))
      obtain ⟨x, y, q, hp⟩ : ∃ x y q, ps[k] = (x, y, q) := ⟨_, _, _, rfl⟩
      rw [hp] at g0 g1 g2 MA
      dsimp only at g0 g1 g2 MA
      have B5 := Lib.hid (bA H2.out (.cells #[.int .i64 x, .int .i64 y, .int .i64 q] 112))
      have B6 := Lib.hid (bA DW.out (.cells #[.int .i64 x, .int .i64 y, .int .i64 q] 112))
      have HA9 := Lib.hid (Eq.refl (absI (c - d)))
      have hwr := H2.out.size
      clear hp hlt Z0 HM
      by_cases xa : x = a
      · have e_xa : (x == a) = true := by simp [xa]
        by_cases yb : y = b
        · have e_yb : (y == b) = true := by simp [yb]
          have hM : (x = a ∧ y = b) ∨ (x = b ∧ y = a) := .inl ⟨xa, yb⟩
          clear xa yb
          have MB := Lib.hid (MA.out.trans (if_pos hM))
          by_cases cd : c = d
          · have R := Lib.hid (show r = false by rw [MB.out]; simp [cd])
            have cd' : (c != d) = false := by simp [cd]
            clear MA MB hM EA
            go_wp2
            go_ret
            exact ⟨by rw [R.out]; rfl, B6.out⟩
          · have cd' : (c != d) = true := by simp [cd]
            by_cases q1 : q = 1
            · have R := Lib.hid (show r = true by rw [MB.out]; simp [cd, q1])
              have q1' : (q == 1) = true := by simp [q1]
              clear MA MB hM EA q1
              go_wp2
              go_ret
              exact ⟨by rw [R.out]; rfl, B6.out⟩
            · have q1' : (q == 1) = false := by simp [q1]
              by_cases a1 : absI (c - d) = 1
              · have R := Lib.hid (show r = false by rw [MB.out]; simp [cd, q1, a1])
                have a1' : (absI (c - d) != 1) = false := by simp [a1]
                generalize absI (c - d) = A at *
                clear MA MB hM q1 a1
                go_wp2_with fail
                refine (EA.out _).mono ?_
                rintro e w5 ⟨rfl, rfl⟩
                go_wp2
                go_ret
                exact ⟨by rw [R.out]; rfl, B6.out⟩
              · have R := Lib.hid (show r = true by rw [MB.out]; simp [cd, q1, a1])
                have a1' : (absI (c - d) != 1) = true := by simp [a1]
                generalize absI (c - d) = A at *
                clear MA MB hM q1 a1
                go_wp2_with fail
                refine (EA.out _).mono ?_
                rintro e w5 ⟨rfl, rfl⟩
                go_wp2
                go_ret
                exact ⟨by rw [R.out]; rfl, B6.out⟩
        · have e_yb : (y == b) = false := by simp [yb]
          have hM : ¬ ((x = a ∧ y = b) ∨ (x = b ∧ y = a)) := by rintro (⟨-, h⟩ | ⟨h3, h4⟩) <;> omega
          by_cases xb : x = b
          · have e_xb : (x == b) = true := by simp [xb]
            have e_ya : (y == a) = false := by simp; omega
            clear xa yb xb
            have MB := Lib.hid (MA.out.trans (if_neg hM))
            clear MA hM EA
            go_wp2
            go_roundw
            case rel => exact ⟨k + 1, by go_num, by omega, MB, B5⟩
            case measure => simp [intOf]; omega
          · have e_xb : (x == b) = false := by simp [xb]
            clear xa yb xb
            have MB := Lib.hid (MA.out.trans (if_neg hM))
            clear MA hM EA
            go_wp2
            go_roundw
            case rel => exact ⟨k + 1, by go_num, by omega, MB, B5⟩
            case measure => simp [intOf]; omega
      · have e_xa : (x == a) = false := by simp [xa]
        by_cases xb : x = b
        · have e_xb : (x == b) = true := by simp [xb]
          by_cases ya : y = a
          · have e_ya : (y == a) = true := by simp [ya]
            have hM : (x = a ∧ y = b) ∨ (x = b ∧ y = a) := .inr ⟨xb, ya⟩
            clear xa xb ya
            have MB := Lib.hid (MA.out.trans (if_pos hM))
            by_cases cd : c = d
            · have R := Lib.hid (show r = false by rw [MB.out]; simp [cd])
              have cd' : (c != d) = false := by simp [cd]
              clear MA MB hM EA
              go_wp2
              go_ret
              exact ⟨by rw [R.out]; rfl, B6.out⟩
            · have cd' : (c != d) = true := by simp [cd]
              by_cases q1 : q = 1
              · have R := Lib.hid (show r = true by rw [MB.out]; simp [cd, q1])
                have q1' : (q == 1) = true := by simp [q1]
                clear MA MB hM EA q1
                go_wp2
                go_ret
                exact ⟨by rw [R.out]; rfl, B6.out⟩
              · have q1' : (q == 1) = false := by simp [q1]
                by_cases a1 : absI (c - d) = 1
                · have R := Lib.hid (show r = false by rw [MB.out]; simp [cd, q1, a1])
                  have a1' : (absI (c - d) != 1) = false := by simp [a1]
                  generalize absI (c - d) = A at *
                  clear MA MB hM q1 a1
                  go_wp2_with fail
                  refine (EA.out _).mono ?_
                  rintro e w5 ⟨rfl, rfl⟩
                  go_wp2
                  go_ret
                  exact ⟨by rw [R.out]; rfl, B6.out⟩
                · have R := Lib.hid (show r = true by rw [MB.out]; simp [cd, q1, a1])
                  have a1' : (absI (c - d) != 1) = true := by simp [a1]
                  generalize absI (c - d) = A at *
                  clear MA MB hM q1 a1
                  go_wp2_with fail
                  refine (EA.out _).mono ?_
                  rintro e w5 ⟨rfl, rfl⟩
                  go_wp2
                  go_ret
                  exact ⟨by rw [R.out]; rfl, B6.out⟩
          · have e_ya : (y == a) = false := by simp [ya]
            have hM : ¬ ((x = a ∧ y = b) ∨ (x = b ∧ y = a)) := by rintro (⟨h, -⟩ | ⟨-, h⟩) <;> omega
            clear xa xb ya
            have MB := Lib.hid (MA.out.trans (if_neg hM))
            clear MA hM EA
            go_wp2
            go_roundw
            case rel => exact ⟨k + 1, by go_num, by omega, MB, B5⟩
            case measure => simp [intOf]; omega
        · have e_xb : (x == b) = false := by simp [xb]
          have hM : ¬ ((x = a ∧ y = b) ∨ (x = b ∧ y = a)) := by rintro (⟨h, -⟩ | ⟨h, -⟩) <;> omega
          clear xa xb
          have MB := Lib.hid (MA.out.trans (if_neg hM))
          clear MA hM EA
          go_wp2
          go_roundw
          case rel => exact ⟨k + 1, by go_num, by omega, MB, B5⟩
          case measure => simp [intOf]; omega
    · have h1' : ¬ (k : Int) < (m : Int) := by omega
      have R := Lib.hid (show r = true by rw [HM.out, List.drop_eq_nil_of_le (by rw [HN.out]; omega)]; rfl)
      clear HM
      go_wp2
      go_ret
      exact ⟨by rw [R.out]; rfl, DW.out⟩

end Go.Proofs.Ytdmfljejlhlbnaa
namespace Go.Proofs.Ytdmfljejlhlbnaa
open Go.RowKit Go.Maps
set_option linter.unusedVariables false

/-- The kind of two stations: that of the last pair of the two, 0 where there is none. -/
def kindF (x : Int × Int) (z : Int) (ps : List LPr) : Int := ps.foldl (fun a p => if ends p = x then p.2.2 else a) z
def kindL (ps : List LPr) (x : Int × Int) : Int := kindF x 0 ps
theorem fold_at (ps : List LPr) (hw : ∀ p ∈ ps, WfP p) (x : Int × Int) (hx : wfI x.1 ∧ wfI x.2) : ∀ (D : DataW Unit) (z : Int), IsMap D → D.atKey (kOf x) (.lit (.int .i64 0)) = .lit (.int .i64 z) → (ps.foldl (fun D p => D.put (kOf (ends p)) (.lit (.int .i64 p.2.2))) D).atKey (kOf x) (.lit (.int .i64 0)) = .lit (.int .i64 (kindF x z ps)) := by
  induction ps with
  | nil => intro D z _ h; exact h
  | cons p r ih =>
    intro D z hD h
    have hp := hw p (by simp)
    rw [List.foldl_cons]
    show _ = DataW.lit (.int .i64 (kindF x (if ends p = x then p.2.2 else z) r))
    refine ih (fun q hq => hw q (by simp [hq])) _ _ (hD.put _ _) ?_
    by_cases e : ends p = x
    · rw [if_pos e, e]
      exact atKey_put_same hD (kOf_key _ hx) _ _
    · rw [if_neg e, atKey_put_other (fun h' => e (kOf_inj hx hp.1 h').symm)]
      exact h
theorem Kd_at (ps : List LPr) (hw : ∀ p ∈ ps, WfP p) (x : Int × Int) (hx : wfI x.1 ∧ wfI x.2) : (Kd ps).atKey (kOf x) (.lit (.int .i64 0)) = .lit (.int .i64 (kindL ps x)) :=
  fold_at ps hw x hx _ 0 isMap_empty (atKey_of_not_has (by simp [Maps.has]) _)

/-- What the closure has: its variable, and in it the map of the kinds. -/
def FitsAt (w : World) (kb : Nat) (ps : List LPr) : Prop := ∃ mb n, w.heap[kb]? = some (.cells #[.map (some mb)] 149) ∧ w.ownsMap Try.prog 152 (plainElem (H := Unit) Try.prog 2) mb n (Kd ps)
theorem FitsAt.lt {w : World} {kb : Nat} {ps : List LPr} (h : FitsAt w kb ps) : kb < w.heap.size := by
  obtain ⟨_, _, h1, _⟩ := h
  exact (Array.getElem?_eq_some_iff.1 h1).1
theorem FitsAt.below {w w' : World} {kb : Nat} {ps : List LPr} (h : FitsAt w kb ps) (hb : Below w.heap.size w w') : FitsAt w' kb ps := by
  have hl := h.lt
  obtain ⟨mb, n, h1, h2⟩ := h
  exact ⟨mb, n, (hb.block kb hl).trans h1, h2.belowM hb⟩

abbrev FV (kb : Nat) : Value := .func (.func 125) #[] #[.pointer (some ⟨kb, 0, none⟩)]
set_option maxRecDepth 100000 in
set_option maxHeartbeats 1000000 in
/-- impl.besideIn. -/
theorem bi_any (sl : Option Addr) (n cap : Nat) (sl2 : Option Addr) (cap2 : Nat) (ps : List LPr) (w : World) (hn : ps.length ≤ 1000) (hp : Prs w sl2 ps) (hw : ∀ p ∈ ps, WfP p) :
    Calls Try.prog 73 #[TV sl n cap sl2 ps.length cap2] w fun e w' => ∃ kb, e = .returned (FV kb) ∧ FitsAt w' kb ps ∧ Below w.heap.size w w' := by
  have hmf : ∀ (fn : Fn) (first cap : Array Value) (w : World), (Instr.makeFunc fn first cap).run Try.prog w = .ok (.func fn first cap) w := fun _ _ _ _ => rfl
  have K1 := Lib.hid (ks_any sl2 cap2 ps (w.alloc (.cells #[.slice sl n cap, .slice sl2 ps.length cap2] 26)) hn (hp.below (bA0 _ _)) hw)
  have B0 := Lib.hid (bA0 w (.cells #[.slice sl n cap, .slice sl2 ps.length cap2] 26))
  clear hp hw
  generalize ps.length = m at *
  go_enter Try.func73, Try.ntmps73
  go_wp2_with fail
  generalize w.alloc (.cells #[.slice sl n cap, .slice sl2 m cap2] 26) = w0 at *
  refine K1.out.mono ?_
  rintro e w1 ⟨rfl, hm, b1⟩
  have D1 := Lib.hid (bA (bT B0.out b1) (.cells #[.map (some w0.heap.size)] 149))
  have F1 : Hid (FitsAt (w1.alloc (.cells #[.map (some w0.heap.size)] 149)) w1.heap.size ps) := ⟨_, _, new_at _ _, hm.belowM (bA0 _ _)⟩
  clear hm b1 K1
  go_wp2
  go_ret
  exact ⟨_, rfl, F1.out, D1.out⟩

/-- How far apart two channels are. -/
def apartI (c d : Int) : Int := max c d - min c d
def keyI (a b : Int) : Int × Int := (min a b, max a b)
def fitB (ps : List LPr) (pl : List LPl) (x : LPl) : Bool := pl.all fun o => decide (kindL ps (keyI o.1 x.1) ≤ apartI o.2 x.2)
def Small (p : LPl) : Prop := (0 ≤ p.1 ∧ p.1 ≤ 1000) ∧ (0 ≤ p.2 ∧ p.2 ≤ 1000)

set_option maxRecDepth 100000 in
set_option maxHeartbeats 2000000 in
/-- The closure of impl.besideIn. -/
theorem fit_any (sl : Option Addr) (cap : Nat) (pl : List LPl) (x y : Int) (kb : Nat) (ps : List LPr) (w : World) (hn : pl.length ≤ 1048576) (hz : Pls w sl pl) (hs : ∀ p ∈ pl, Small p) (hx : Small (x, y)) (hw : ∀ p ∈ ps, WfP p) (hf : FitsAt w kb ps) :
    Calls Try.prog 125 #[.slice sl pl.length cap, .agg #[.int .i64 x, .int .i64 y], .pointer (some ⟨kb, 0, none⟩)] w fun e w' => e = .returned (.bool (fitB ps pl (x, y))) ∧ Below w.heap.size w w' := by
  have B0 := Lib.hid (bA0 w (.cells #[.int .i64 x, .int .i64 y] 34))
  have HX := Lib.hid (show (w.alloc (.cells #[.int .i64 x, .int .i64 y] 34)).heap[w.heap.size]? = some (.cells #[.int .i64 x, .int .i64 y] 34) from new_at _ _)
  have F0 := Lib.hid (hf.below (bA0 w (.cells #[.int .i64 x, .int .i64 y] 34)))
  have HZ := Lib.hid hz
  have HS := Lib.hid hs
  have HW := Lib.hid hw
  have XS := Lib.hid hx
  clear hz hs hw hf
  obtain ⟨⟨x1, x2⟩, ⟨y1, y2⟩⟩ := hx
  dsimp only at x1 x2 y1 y2
  generalize hR : fitB ps pl (x, y) = r
  have HR := Lib.hid hR
  clear hR
  generalize hN : pl.length = n at *
  have HN := Lib.hid hN
  clear hN
  go_enter Try.func125, Try.ntmps125
  go_wp2
  generalize w.alloc (.cells #[.int .i64 x, .int .i64 y] 34) = w0 at *
  go_loopw [11] (fun i wr => ∃ k : Nat, i = .int .i64 k ∧ k ≤ n ∧ Hid (r = fitB ps (pl.drop k) (x, y)) ∧ Hid (Below w0.heap.size w0 wr)) (fun i _ => n - (intOf i).toNat)
  case atStart => exact ⟨0, rfl, Nat.zero_le _, HR.out.symm, Below.refl _ _⟩
  case round =>
    obtain ⟨k, rfl, hk, HM, H2⟩ := hrel
    have hk0 : (0 : Int) ≤ (k : Int) := by omega
    have DW := Lib.hid (bT B0.out H2.out)
    by_cases h1 : k < n
    · have h1' : (k : Int) < (n : Int) := by omega
      have hlt : k < pl.length := by rw [HN.out]; exact h1
      obtain ⟨g, o, rfl, Z0⟩ : ∃ c o, sl = some ⟨c, o, none⟩ ∧ PlAt w c o pl := by
        rcases HZ.out with e | h
        · rw [e] at hlt; simp at hlt
        · exact h
      have g0 := (DW.out.cell Z0.lt).trans (Z0.cell k hlt).1
      have g1 := (DW.out.cell Z0.lt).trans (Z0.cell k hlt).2
      have SM := HS.out pl[k] (List.getElem_mem hlt)
      have FA := Lib.hid (show fitB ps (pl.drop k) (x, y) = (decide (kindL ps (keyI pl[k].1 x) ≤ apartI pl[k].2 y) && fitB ps (pl.drop (k + 1)) (x, y)) by
        rw [← List.getElem_cons_drop (h := hlt)]; rfl)
      obtain ⟨a, c, hp⟩ : ∃ a c, pl[k] = (a, c) := ⟨_, _, rfl⟩
      rw [hp] at g0 g1 SM FA
      obtain ⟨⟨a1, a2⟩, ⟨c1, c2⟩⟩ := SM
      dsimp only at g0 g1 a1 a2 c1 c2 FA
      have hxb := Lib.hid ((H2.out.block w.heap.size (Array.getElem?_eq_some_iff.1 HX.out).1).trans HX.out)
      have xl : w.heap.size < wr.heap.size := (Array.getElem?_eq_some_iff.1 hxb.out).1
      have xc0 : wr.cell? ⟨w.heap.size, 0, none⟩ = some (.int .i64 x) := by simp [World.cell?, hxb.out]
      have xc1 : wr.cell? ⟨w.heap.size, 1, none⟩ = some (.int .i64 y) := by simp [World.cell?, hxb.out]
      have F2 := F0.out.below H2.out
      have kbl := F2.lt
      obtain ⟨mb, mn, f1, f2⟩ := F2
      have fc : wr.cell? ⟨kb, 0, none⟩ = some (.map (some mb)) := by simp [World.cell?, f1]
      have OM := Lib.hid (f2.belowM (bA0 wr (.cells #[.int .i64 a, .int .i64 c] 34)))
      clear hp hlt Z0 hxb f1 f2
      have wk : wfI (min a x) ∧ wfI (max a x) := ⟨wf_small (by omega), wf_small (by omega)⟩
      have KK := Lib.hid (key_is (min a x, max a x) wk)
      have KE : Hid (∀ cc : Int, (Kd ps).atKey (kOf (min a x, max a x)) (.lit (.int .i64 0)) = .lit (.int .i64 cc) → cc = kindL ps (min a x, max a x)) := fun cc h => by
        rw [Kd_at ps HW.out _ wk] at h
        simpa using h.symm
      have hwr := H2.out.size
      have B5 := Lib.hid (bA H2.out (.cells #[.int .i64 a, .int .i64 c] 34))
      have B6 := Lib.hid (bA DW.out (.cells #[.int .i64 a, .int .i64 c] 34))
      clear wk
      by_cases hv : kindL ps (min a x, max a x) ≤ max c y - min c y
      · have hv' : ¬ max c y - min c y < kindL ps (min a x, max a x) := by omega
        have HM2 := Lib.hid (show r = fitB ps (pl.drop (k + 1)) (x, y) by
          rw [HM.out, FA.out]
          unfold keyI apartI
          rw [decide_eq_true hv, Bool.true_and])
        clear HM FA
        go_wp2_with (first | (at_lookup; refine wpList_lookup_own_int _ rfl _ _ 149 rfl 152 2 .i64 law63 Try.underlying149 Try.underlying2 (Try.zeroValue2 _) mb mn (Kd ps) rfl OM.out _ _ rfl KK.out ?_; intro cc hat hwc; have hcc := KE.out cc hat; subst hcc; clear hat hwc))
        go_roundw
        case rel => exact ⟨k + 1, by go_num, by omega, HM2, B5⟩
        case measure => simp [intOf]; omega
      · have hv' : max c y - min c y < kindL ps (min a x, max a x) := by omega
        have R := Lib.hid (show r = false by
          rw [HM.out, FA.out]
          unfold keyI apartI
          rw [decide_eq_false hv, Bool.false_and])
        clear HM FA
        go_wp2_with (first | (at_lookup; refine wpList_lookup_own_int _ rfl _ _ 149 rfl 152 2 .i64 law63 Try.underlying149 Try.underlying2 (Try.zeroValue2 _) mb mn (Kd ps) rfl OM.out _ _ rfl KK.out ?_; intro cc hat hwc; have hcc := KE.out cc hat; subst hcc; clear hat hwc))
        go_ret
        exact ⟨by rw [R.out]; rfl, B6.out⟩
    · have h1' : ¬ (k : Int) < (n : Int) := by omega
      have R := Lib.hid (show r = true by rw [HM.out, List.drop_eq_nil_of_le (by rw [HN.out]; omega)]; rfl)
      clear HM
      go_wp2
      go_ret
      exact ⟨by rw [R.out]; rfl, DW.out⟩

end Go.Proofs.Ytdmfljejlhlbnaa
namespace Go.Proofs.Ytdmfljejlhlbnaa
open Go.RowKit
set_option linter.unusedVariables false

theorem at_add (c o i : Nat) : (⟨c, o, none⟩ : Addr).add i = ⟨c, o + i, none⟩ := by
  unfold Addr.add
  by_cases h : i = 0 <;> simp [h]
theorem enCells_one (pl : List LPl) : ∀ u ∈ enCells pl, u.oneCell' = true := by
  intro u hu
  unfold enCells at hu
  obtain ⟨p, _, h⟩ := List.mem_flatMap.1 hu
  simp [encE] at h
  rcases h with rfl | rfl <;> rfl
theorem enCells_app (a b : List LPl) : enCells (a ++ b) = enCells a ++ enCells b := by simp [enCells]
theorem pl_cells {w : World} {c o : Nat} {pl : List LPl} (h : PlAt w c o pl) : ∀ (j : Nat) (u : Value), (enCells pl)[j]? = some u → w.cell? ((⟨c, o, none⟩ : Addr).add j) = some u := by
  intro j u hu
  have hl : j < pl.length * 2 := by
    rw [← enCells_len]
    exact (List.getElem?_eq_some_iff.1 hu).1
  rw [at_add]
  obtain ⟨i, rfl | rfl⟩ : ∃ i, j = i * 2 ∨ j = i * 2 + 1 := ⟨j / 2, by omega⟩
  · have hi : i < pl.length := by omega
    rw [(h.cell i hi).1, ← hu, (enCells_at pl i hi).1]
  · have hi : i < pl.length := by omega
    rw [← Nat.add_assoc, (h.cell i hi).2, ← hu, (enCells_at pl i hi).2]
theorem app_none27 (w : World) (ty : TypeId) (base : Option Addr) (n cap : Nat) (hle : n ≤ cap) (p : Option Addr) (c : Nat) :
    (Builtin.append_ #[27, 27] ty #[.slice base n cap, .slice p 0 c]).run Try.prog w = .ok (.slice base n cap) w := by
  obtain ⟨i, h1, h2, h3, h4⟩ := info_parts info34
  refine run_append_nothing w 27 27 ty 34 i Try.underlying27 h1 base n cap hle _ ?_
  cases p with
  | none => exact Src.ofNil _ Try.underlying27 c
  | some a => exact Src.ofSlice _ Try.underlying27 a 0 c [] (by simp) (fun j u h => by simp at h) (fun u h => by cases h)

set_option maxRecDepth 100000 in
set_option maxHeartbeats 2000000 in
/-- slices.Grow of no slice. -/
theorem grow_any (n : Nat) (w : World) (hn : n ≤ 1048576) :
    Calls Try.prog 131 #[.slice none 0 0, .int .i64 n] w fun e w' => ∃ v, e = .returned v ∧ w'.ownsRow w.heap.size 34 2 v 0 (enCells []) ∧ Below w.heap.size w w' := by
  obtain ⟨i3, hi3, hd0, hd1, hd2⟩ := info_parts info34
  by_cases h0 : n = 0
  · subst h0
    go_enter Try.func131, Try.ntmps131
    go_wp2
    go_ret
    exact ⟨_, rfl, ⟨rfl, .inl ⟨rfl, rfl⟩⟩, Below.refl _ _⟩
  · have hp : (0 : Int) < (n : Int) := by omega
    have hneg : ¬ (n : Int) < 0 := by omega
    have hrz := fun ty => Lib.run_append_nil_zeros (P := Try.prog) w 27 3 ty 34 i3 _ .i64 .i64 Try.underlying27 Try.underlying3 hi3 hd0 n (by omega) (by omega) (by omega) (by rw [hd2]; omega)
    have hG := grownCap_ge w n 0 34
    have hM := grownCap_le_maxLen w n 0 34 (by unfold maxLen; omega)
    have hM' := hM
    unfold maxLen at hM'
    generalize grownCap w n 0 34 = G at *
    have O : Hid ((w.drew.alloc (.cells (Builtin.zeroCells (Value.agg #[Value.int .i64 0, Value.int .i64 0]).cells n ++ Builtin.zeroCells (Value.agg #[Value.int .i64 0, Value.int .i64 0]).cells (G - n)) 34)).ownsRow w.heap.size 34 2 (.slice (some ⟨w.heap.size, 0, none⟩) 0 G) 0 (enCells [])) := by
      refine ⟨rfl, .inr ⟨w.heap.size, G, _, rfl, Nat.le_refl _, new_at w.drew _, Nat.zero_le _, hM, ?_, rfl⟩⟩
      simp only [Array.size_append, size_zeroCells]
      rw [← Nat.add_mul, show (Value.agg #[Value.int .i64 0, Value.int .i64 0]).cells.size = 2 from rfl]
      congr 1
      omega
    have BL : Hid (Below w.heap.size w (w.drew.alloc (.cells (Builtin.zeroCells (Value.agg #[Value.int .i64 0, Value.int .i64 0]).cells n ++ Builtin.zeroCells (Value.agg #[Value.int .i64 0, Value.int .i64 0]).cells (G - n)) 34))) := bA ((Below.refl _ _).drew) _
    generalize Builtin.zeroCells (Value.agg #[Value.int .i64 0, Value.int .i64 0]).cells n ++ Builtin.zeroCells (Value.agg #[Value.int .i64 0, Value.int .i64 0]).cells (G - n) = vs at *
    go_enter Try.func131, Try.ntmps131
    go_wp2_with (at_builtin; refine Lib.wpList_append_run _ rfl _ _ _ _ rfl _ _ rfl rfl _ _ (hrz _) ?_)
    go_ret
    exact ⟨_, rfl, O.out, BL.out⟩

/-- All places of the rows, one behind the other. -/
def flatR (rows : List LRow) : List LPl := rows.flatMap fun r => r.2
theorem flatR_step (rows : List LRow) (k : Nat) (h : k < rows.length) : flatR (rows.take (k + 1)) = flatR (rows.take k) ++ rows[k].2 := by
  unfold flatR
  rw [List.take_succ_eq_append_getElem h, List.flatMap_append]
  simp
theorem flatR_le (rows : List LRow) (k : Nat) : (flatR (rows.take k)).length ≤ (flatR rows).length := by
  have := congrArg (fun l => (flatR l).length) (List.take_append_drop k rows)
  simp only [flatR, List.flatMap_append, List.length_append] at this
  unfold flatR
  omega
theorem flatR_map {rs : List LSt} {top : Int} {ids : List Int} {rows : List LRow} (h : rows.map (fun r => r.2) = ids.map (chF rs top)) : flatR rows = plF rs top ids := by
  unfold flatR plF
  rw [List.flatMap_def, List.flatMap_def, h]

set_option maxRecDepth 100000 in
set_option maxHeartbeats 4000000 in
/-- slices.Concat at places. -/
theorem cat_any (sl : Option Addr) (cap : Nat) (rows : List LRow) (w : World) (hn : rows.length ≤ 1048576) (hT : (flatR rows).length ≤ 1048576) (hz : Rws w sl rows) :
    Calls Try.prog 81 #[.slice sl rows.length cap] w fun e w' => ∃ v, e = .returned v ∧ w'.ownsRow w.heap.size 34 2 v (flatR rows).length (enCells (flatR rows)) ∧ Below w.heap.size w w' := by
  obtain ⟨i3, hi3, hd0, hd1, hd2⟩ := info_parts info34
  have HZ := Lib.hid hz
  have EG := Lib.hid (fun (W : World) (q : Nat) (h : q ≤ 1048576) => grow_any q W h)
  clear hz
  generalize hF : flatR rows = fl at *
  have HF := Lib.hid hF
  have FL := Lib.hid (fun k => flatR_le rows k)
  rw [hF] at FL
  clear hF
  generalize hN : rows.length = n at *
  have HN := Lib.hid hN
  clear hN
  go_enter Try.func81, Try.ntmps81
  go_wp2
  go_loopw [3, 11] (fun s i wr => ∃ (k q : Nat), i = .int .i64 k ∧ k ≤ n ∧ s = .int .i64 q ∧ q ≤ 1048576 ∧ Hid (q = (flatR (rows.take k)).length) ∧ wr = w) (fun _ i _ => n - (intOf i).toNat)
  case atStart => exact ⟨0, 0, rfl, Nat.zero_le _, rfl, Nat.zero_le _, rfl, rfl⟩
  case round =>
    obtain ⟨k, q, rfl, hk, rfl, hq, HQ, rfl⟩ := hrel
    have hk0 : (0 : Int) ≤ (k : Int) := by omega
    by_cases g1 : k < n
    · have g1' : (k : Int) < (n : Int) := by omega
      have hlt : k < rows.length := by rw [HN.out]; exact g1
      obtain ⟨c, rfl, cl, hcs⟩ : ∃ c, sl = some ⟨c, 0, none⟩ ∧ c < wr.heap.size ∧ ∀ i (h : i < rows.length), wr.cell? ⟨c, i, none⟩ = some rows[i].1 := by
        rcases HZ.out.row with e | h
        · rw [e] at hlt; simp at hlt
        · exact h
      have hc := hcs k hlt
      obtain ⟨s1, k1, v1, -⟩ := HZ.out.each rows[k] (List.getElem_mem hlt)
      rw [v1] at hc
      have QN := Lib.hid (show q + rows[k].2.length = (flatR (rows.take (k + 1))).length by rw [flatR_step rows k hlt, List.length_append, HQ.out])
      have hq2 : q + rows[k].2.length ≤ 1048576 := by rw [QN.out]; have := FL.out (k + 1); omega
      clear hcs v1
      generalize rows[k].2.length = r at *
      clear hlt
      go_wp2
      go_roundw
      case rel => exact ⟨k + 1, q + r, by go_num, by omega, by go_num, hq2, QN, trivial⟩
      case measure => simp [intOf]; omega
    · have g1' : ¬ (k : Int) < (n : Int) := by omega
      have E := Lib.hid (EG.out wr q hq)
      clear EG HQ
      go_wp2_with fail
      refine E.out.mono ?_
      rintro e w1 ⟨v1, rfl, o1, b1⟩
      obtain ⟨C0, hC0⟩ : ∃ C0, C0 = wr.heap.size := ⟨_, rfl⟩
      have RD : Hid (∀ W, Below C0 w1 W → Rws W sl rows) := fun W hW => HZ.out.below (b1.trans (by rw [← hC0]; exact hW))
      have FB : Hid (∀ W, Below C0 w1 W → Below wr.heap.size wr W) := fun W hW => b1.trans (by rw [← hC0]; exact hW)
      have hs1 : C0 ≤ w1.heap.size := by rw [hC0]; exact b1.size
      have O1 : Hid (w1.ownsRow C0 34 2 v1 0 (enCells [])) := by rw [hC0]; exact o1
      have OF : Hid (∀ (W : World) v xs, W.ownsRow C0 34 2 v fl.length xs → W.ownsRow wr.heap.size 34 2 v fl.length xs) := fun W v xs h => by rw [← hC0]; exact h
      clear o1 b1 E HZ hC0
      go_wp2
      go_loopw [6, 27] (fun v i wq => ∃ (k : Nat) (cu : List LPl), i = .int .i64 k ∧ k ≤ n ∧ Hid (cu = flatR (rows.take k)) ∧ Hid (wq.ownsRow C0 34 2 v cu.length (enCells cu)) ∧ Hid (Below C0 w1 wq)) (fun _ i _ => n - (intOf i).toNat)
      case atStart => exact ⟨0, [], rfl, Nat.zero_le _, rfl, O1, Below.refl _ _⟩
      case round =>
        obtain ⟨k, cu, rfl, hk, HC, OR, HB⟩ := hrel
        have hk0 : (0 : Int) ≤ (k : Int) := by omega
        by_cases g1 : k < n
        · have g1' : (k : Int) < (n : Int) := by omega
          have hlt : k < rows.length := by rw [HN.out]; exact g1
          have RW := RD.out _ HB.out
          obtain ⟨c, rfl, cl, hcs⟩ : ∃ c, sl = some ⟨c, 0, none⟩ ∧ c < wr.heap.size ∧ ∀ i (h : i < rows.length), wr.cell? ⟨c, i, none⟩ = some rows[i].1 := by
            rcases RW.row with e | h
            · rw [e] at hlt; simp at hlt
            · exact h
          have hc := hcs k hlt
          obtain ⟨s1, k1, e1, p1⟩ := RW.each rows[k] (List.getElem_mem hlt)
          rw [e1] at hc
          have CS := Lib.hid (show cu ++ rows[k].2 = flatR (rows.take (k + 1)) by rw [HC.out]; exact (flatR_step rows k hlt).symm)
          have CL := Lib.hid (show (cu ++ rows[k].2).length ≤ 1048576 by rw [CS.out]; have := FL.out (k + 1); omega)
          obtain ⟨vsl, vcap, rfl⟩ := own_v OR.out
          have hlc : cu.length ≤ vcap := by
            rcases OR.out.2 with ⟨_, h0⟩ | ⟨g, cp, cur, hv, _, _, h5, _⟩
            · rw [h0]; exact Nat.zero_le _
            · cases hv; exact h5
          have hsw := HB.out.size
          clear hcs RW e1
          generalize rows[k].2 = r at *
          clear hlt
          by_cases hr : r = []
          · subst hr
            have CSE : Hid (cu = flatR (rows.take (k + 1))) := by have := CS.out; rwa [List.append_nil] at this
            have ha := app_none27 wr 27 vsl cu.length vcap hlc s1 k1
            go_wp2_with (at_builtin; refine Lib.wpList_append_run _ rfl _ _ _ _ rfl _ _ rfl rfl _ _ ha ?_)
            go_roundw
            case rel => exact ⟨k + 1, cu, by go_num, by omega, CSE, OR, HB⟩
            case measure => simp [intOf]; omega
          · obtain ⟨rc, ro, rfl, PA⟩ : ∃ c o, s1 = some ⟨c, o, none⟩ ∧ PlAt wr c o r := by
              rcases p1 with h | h
              · exact absurd h hr
              · exact h
            have hrl : 0 < r.length := by
              cases r with
              | nil => exact absurd rfl hr
              | cons a t => simp
            have CL2 : cu.length + r.length ≤ 1048576 := by have := CL.out; rwa [List.length_append] at this
            have OL := Lib.hid (show ∀ j, (Value.slice vsl cu.length vcap).ownBlock = some j → C0 ≤ j from fun j hj => (OR.out.lt j hj).1)
            go_wp2_with (at_builtin; refine wpList_append_lies _ rfl (.tmp 31) (.tmp 32) 27 rfl C0 34 i3 (.agg #[.int .i64 0, .int .i64 0]) 2 16 Try.underlying27 hi3 hd0 hd1 hd2 rfl (by decide) _ _ _ rfl OR.out ⟨rc, ro, none⟩ r.length k1 (enCells r) rfl (enCells_len r) (pl_cells PA) (enCells_one r) hrl (by unfold maxLen; omega) (by omega) (by omega) wr.heap.size rfl ?_)
            intro g9 cap9 w9 own9 grow9 hg9 hlt9
            have O9 : Hid (w9.ownsRow C0 34 2 (.slice (some ⟨g9, 0, none⟩) (cu.length + r.length) cap9) (cu ++ r).length (enCells (cu ++ r))) := by
              rw [enCells_app, List.length_append]; exact own9
            have B9 := Lib.hid (HB.out.grown grow9 (by omega) (fun j hj => OL.out j hj))
            clear own9 grow9 hg9 hlt9 OR HB OL p1 PA
            go_wp2
            go_roundw
            case rel => exact ⟨k + 1, cu ++ r, by go_num, by omega, CS, O9, B9⟩
            case measure => simp [intOf]; omega
        · have g1' : ¬ (k : Int) < (n : Int) := by omega
          have P := Lib.hid (show cu = fl by rw [HC.out, List.take_of_length_le (by rw [HN.out]; omega), HF.out])
          have O9 := OR.out
          rw [P.out] at O9
          have OO := Lib.hid (OF.out _ _ _ O9)
          have BB := Lib.hid (FB.out _ HB.out)
          clear O9 OR HC P
          go_wp2
          go_ret
          exact ⟨_, rfl, OO.out, BB.out⟩

end Go.Proofs.Ytdmfljejlhlbnaa
namespace Go.Proofs.Ytdmfljejlhlbnaa
open Go.RowKit
set_option linter.unusedVariables false

theorem eq34 (a b c d : Int) (w : World) : Sem.run Try.prog (binOp .eql 34 (.agg #[.int .i64 a, .int .i64 b]) (.agg #[.int .i64 c, .int .i64 d])) w = .ok (.bool (a == c && b == d)) w := by
  have u2 := Try.underlying2
  have a2 := Try.isAgg2
  have z2 := Try.sizeOf2
  have hS : Try.prog.underlying 34 = some (.struct (Try.prog.fieldsOf 34)) := by kernel_rfl
  have hp : Try.prog.stoodInHeld 34 = false := by kernel_rfl
  rw [run_eql_struct, show (10000 : Nat) = 9999 + 1 from rfl, run_equalIn_agg w 9999 34 _ _ hS hp]
  simp only [Program.fieldsOf, Try.underlying34]
  go_simp
  by_cases h1 : a = c <;> by_cases h2 : b = d <;> simp [h1, h2]
def NotP (pl : List LPl) (p : LPl) (k : Nat) : Prop := ∀ i (h : i < pl.length), i < k → pl[i] ≠ p
theorem NotP.all {pl : List LPl} {p : LPl} {k : Nat} (h : NotP pl p k) (hk : pl.length ≤ k) : p ∉ pl := fun g => by
  obtain ⟨i, hi, e⟩ := List.getElem_of_mem g
  exact h i hi (by omega) e
theorem NotP.step {pl : List LPl} {p : LPl} {k : Nat} (h : NotP pl p k) (hk : k < pl.length) (g : pl[k] ≠ p) : NotP pl p (k + 1) := fun i hi hik => by
  by_cases e : i = k
  · subst e; exact g
  · exact h i hi (by omega)
/-- Two cells. -/
def TwoAt (w : World) (b : Nat) (x y : Int) : Prop := w.heap[b]? = some (.cells #[.int .i64 x, .int .i64 y] 34)
theorem TwoAt.lt {w : World} {b : Nat} {x y : Int} (h : TwoAt w b x y) : b < w.heap.size := (Array.getElem?_eq_some_iff.1 h).1
theorem TwoAt.below {w w' : World} {b : Nat} {x y : Int} (h : TwoAt w b x y) (hb : Below w.heap.size w w') : TwoAt w' b x y := (hb.block b h.lt).trans h
theorem TwoAt.cells {w : World} {b : Nat} {x y : Int} (h : TwoAt w b x y) : w.cell? ⟨b, 0, none⟩ = some (.int .i64 x) ∧ w.cell? ⟨b, 1, none⟩ = some (.int .i64 y) := by
  unfold TwoAt at h
  constructor <;> simp [World.cell?, h]
theorem TwoAt.new (w : World) (x y : Int) : TwoAt (w.alloc (.cells #[.int .i64 x, .int .i64 y] 34)) w.heap.size x y := new_at _ _

set_option maxRecDepth 100000 in
set_option maxHeartbeats 2000000 in
theorem pix_any (sl : Option Addr) (cap : Nat) (pl : List LPl) (x y : Int) (w : World) (hn : pl.length ≤ 1048576) (hz : Pls w sl pl) :
    Calls Try.prog 132 #[.slice sl pl.length cap, .agg #[.int .i64 x, .int .i64 y]] w fun e w' => ∃ r : Int, e = .returned (.int .i64 r) ∧ ((x, y) ∈ pl ↔ 0 ≤ r) ∧ Below w.heap.size w w' := by
  have HZ := Lib.hid hz
  have HT := Lib.hid (TwoAt.new w x y)
  have B0 := Lib.hid (bA0 w (.cells #[.int .i64 x, .int .i64 y] 34))
  clear hz
  generalize hN : pl.length = n at *
  have HN := Lib.hid hN
  clear hN
  go_enter Try.func132, Try.ntmps132
  go_wp2
  generalize w.alloc (.cells #[.int .i64 x, .int .i64 y] 34) = wA at *
  go_loopw [8] (fun i wr => ∃ k : Nat, i = .int .i64 k ∧ k ≤ n ∧ Hid (NotP pl (x, y) k) ∧ Hid (Below wA.heap.size wA wr)) (fun i _ => n - (intOf i).toNat)
  case atStart => exact ⟨0, rfl, Nat.zero_le _, fun i h hk => absurd hk (Nat.not_lt_zero _), Below.refl _ _⟩
  case round =>
    obtain ⟨k, rfl, hk, NI, H2⟩ := hrel
    have hk0 : (0 : Int) ≤ (k : Int) := by omega
    have DW := Lib.hid (bT B0.out H2.out)
    by_cases g1 : k < n
    · have g1' : (k : Int) < (n : Int) := by omega
      have hlt : k < pl.length := by rw [HN.out]; exact g1
      obtain ⟨c, o, rfl, Z0⟩ : ∃ c o, sl = some ⟨c, o, none⟩ ∧ PlAt w c o pl := by
        rcases HZ.out with e | h
        · rw [e] at hlt; simp at hlt
        · exact h
      have Z1 := Z0.below DW.out
      obtain ⟨c0, c1⟩ := Z1.cell k hlt
      have cl := Z1.lt
      have TA := HT.out.below H2.out
      obtain ⟨t0, t1⟩ := TA.cells
      have tl := TA.lt
      obtain ⟨a, b, hp⟩ : ∃ a b, pl[k] = (a, b) := ⟨_, _, rfl⟩
      rw [hp] at c0 c1
      dsimp only at c0 c1
      have hgt : Try.prog.eqGuardType Try.prog.depth 34 = false := by kernel_rfl
      have hnq := eq34 x y a b
      have KB : Hid (∀ W, Below wr.heap.size wr W → w.heap.size < W.heap.size ∧ c < W.heap.size ∧ W.cell? ⟨w.heap.size, 0, none⟩ = some (.int .i64 x) ∧ W.cell? ⟨w.heap.size, 1, none⟩ = some (.int .i64 y) ∧ W.cell? ⟨c, o + k * 2, none⟩ = some (.int .i64 a) ∧ W.cell? ⟨c, o + k * 2 + 1, none⟩ = some (.int .i64 b)) := fun W hW => ⟨Nat.lt_of_lt_of_le tl hW.size, Nat.lt_of_lt_of_le cl hW.size, (hW.cell tl).trans t0, (hW.cell tl).trans t1, (hW.cell cl).trans c0, (hW.cell cl).trans c1⟩
      by_cases hac : x = a ∧ y = b
      · have hnb : (x == a && y == b) = true := by simp [hac]
        rw [hnb] at hnq
        have IN := Lib.hid (show (x, y) ∈ pl from by
          have : pl[k] = (x, y) := by rw [hp, hac.1, hac.2]
          rw [← this]; exact List.getElem_mem hlt)
        clear hp hlt Z0 Z1 TA hac hnb NI c0 c1 t0 t1
        go_wp2_with fail
        refine wp_region_held_drew (S := fun W => w.heap.size < W.heap.size ∧ c < W.heap.size ∧ W.cell? ⟨w.heap.size, 0, none⟩ = some (.int .i64 x) ∧ W.cell? ⟨w.heap.size, 1, none⟩ = some (.int .i64 y) ∧ W.cell? ⟨c, o + k * 2, none⟩ = some (.int .i64 a) ∧ W.cell? ⟨c, o + k * 2 + 1, none⟩ = some (.int .i64 b)) (by kernel_rfl) ?_ (fun hHeld => ?_)
        · exact KB.out _ (Below.refl _ _).drew
        refine wpAnyH_take (i := 0) (oi := _) (v := ?_) rfl (by kernel_rfl) (by kernel_rfl) (by kernel_rfl) (fun _ _ _ h => h) (Or.inl ⟨by rfl, ?_⟩) (by assumption) ?_
        rotate_left
        · first | (intro w hSw; (try dsimp only at hSw); go_simp; done) | (intro w hSw; (try dsimp only at hSw); go_simp; with_reducible rfl)
        try simp only [Act.put, List.setIfInBounds_toArray, List.set_cons_zero, List.set_cons_succ, List.getElem_toArray, List.getElem_cons_zero]
        refine wpAnyH_take (i := 1) (oi := _) (v := ?_) rfl (by kernel_rfl) (by kernel_rfl) (by kernel_rfl) (fun _ _ _ h => h) (Or.inl ⟨by rfl, ?_⟩) (by assumption) ?_
        rotate_left
        · first | (intro w hSw; (try dsimp only at hSw); go_simp; done) | (intro w hSw; (try dsimp only at hSw); go_simp; with_reducible rfl)
        try simp only [Act.put, List.setIfInBounds_toArray, List.set_cons_zero, List.set_cons_succ, List.getElem_toArray, List.getElem_cons_succ, List.getElem_cons_zero]
        refine wpAnyH_take (i := 2) (oi := _) (v := ?_) rfl (by kernel_rfl) (by kernel_rfl) (by kernel_rfl) (fun _ _ _ h => h) (Or.inl ⟨by rfl, ?_⟩) (by assumption) ?_
        rotate_left
        · first | (intro w hSw; (try dsimp only at hSw); go_simp; done) | (intro w hSw; (try dsimp only at hSw); go_simp; with_reducible rfl)
        try simp only [Act.put, List.setIfInBounds_toArray, List.set_cons_zero, List.set_cons_succ, List.getElem_toArray, List.getElem_cons_succ, List.getElem_cons_zero]
        refine wpAnyH_take (i := 3) (oi := _) (v := ?_) rfl (by kernel_rfl) (by kernel_rfl) (by kernel_rfl) (fun _ _ _ h => h) (Or.inl ⟨by rfl, ?_⟩) (by assumption) ?_
        rotate_left
        · first | (intro w hSw; (try dsimp only at hSw); go_simp; done) | (intro w hSw; (try dsimp only at hSw); go_simp; with_reducible rfl)
        try simp only [Act.put, List.setIfInBounds_toArray, List.set_cons_zero, List.set_cons_succ, List.getElem_toArray, List.getElem_cons_succ, List.getElem_cons_zero]
        refine wpAnyH_take (i := 4) (oi := _) (v := ?_) rfl (by kernel_rfl) (by kernel_rfl) (by kernel_rfl) (fun _ _ _ h => h) (Or.inl ⟨by rfl, ?_⟩) (by assumption) ?_
        rotate_left
        · first | (intro w hSw; (try dsimp only at hSw); go_simp; done) | (intro w hSw; (try dsimp only at hSw); go_simp; with_reducible rfl)
        try simp only [Act.put, List.setIfInBounds_toArray, List.set_cons_zero, List.set_cons_succ, List.getElem_toArray, List.getElem_cons_succ, List.getElem_cons_zero]
        refine wpAnyH_take (i := 5) (oi := _) (v := ?_) rfl (by kernel_rfl) (by kernel_rfl) (by kernel_rfl) (fun _ _ _ h => h) (Or.inl ⟨by rfl, ?_⟩) (by assumption) ?_
        rotate_left
        · first | (intro w hSw; (try dsimp only at hSw); go_simp; done) | (intro w hSw; (try dsimp only at hSw); go_simp; with_reducible rfl)
        try simp only [Act.put, List.setIfInBounds_toArray, List.set_cons_zero, List.set_cons_succ, List.getElem_toArray, List.getElem_cons_succ, List.getElem_cons_zero]
        refine wpAnyH_done (by kernel_rfl) ?_ _
        have D5 := Lib.hid (DW.out.drew)
        clear KB
        go_wp2_with fail
        go_ret
        exact ⟨(k : Int), rfl, ⟨fun _ => by omega, fun _ => IN.out⟩, D5.out⟩
      · have hnb : (x == a && y == b) = false := by
          simp
          intro h h2
          exact hac ⟨h, h2⟩
        rw [hnb] at hnq
        have NI2 := Lib.hid (NI.out.step hlt (by rw [hp]; intro e; exact hac ⟨(Prod.mk.inj e).1.symm, (Prod.mk.inj e).2.symm⟩))
        clear hp hlt Z0 Z1 TA hac hnb NI c0 c1 t0 t1
        go_wp2_with fail
        refine wp_region_held_drew (S := fun W => w.heap.size < W.heap.size ∧ c < W.heap.size ∧ W.cell? ⟨w.heap.size, 0, none⟩ = some (.int .i64 x) ∧ W.cell? ⟨w.heap.size, 1, none⟩ = some (.int .i64 y) ∧ W.cell? ⟨c, o + k * 2, none⟩ = some (.int .i64 a) ∧ W.cell? ⟨c, o + k * 2 + 1, none⟩ = some (.int .i64 b)) (by kernel_rfl) ?_ (fun hHeld => ?_)
        · exact KB.out _ (Below.refl _ _).drew
        refine wpAnyH_take (i := 0) (oi := _) (v := ?_) rfl (by kernel_rfl) (by kernel_rfl) (by kernel_rfl) (fun _ _ _ h => h) (Or.inl ⟨by rfl, ?_⟩) (by assumption) ?_
        rotate_left
        · first | (intro w hSw; (try dsimp only at hSw); go_simp; done) | (intro w hSw; (try dsimp only at hSw); go_simp; with_reducible rfl)
        try simp only [Act.put, List.setIfInBounds_toArray, List.set_cons_zero, List.set_cons_succ, List.getElem_toArray, List.getElem_cons_zero]
        refine wpAnyH_take (i := 1) (oi := _) (v := ?_) rfl (by kernel_rfl) (by kernel_rfl) (by kernel_rfl) (fun _ _ _ h => h) (Or.inl ⟨by rfl, ?_⟩) (by assumption) ?_
        rotate_left
        · first | (intro w hSw; (try dsimp only at hSw); go_simp; done) | (intro w hSw; (try dsimp only at hSw); go_simp; with_reducible rfl)
        try simp only [Act.put, List.setIfInBounds_toArray, List.set_cons_zero, List.set_cons_succ, List.getElem_toArray, List.getElem_cons_succ, List.getElem_cons_zero]
        refine wpAnyH_take (i := 2) (oi := _) (v := ?_) rfl (by kernel_rfl) (by kernel_rfl) (by kernel_rfl) (fun _ _ _ h => h) (Or.inl ⟨by rfl, ?_⟩) (by assumption) ?_
        rotate_left
        · first | (intro w hSw; (try dsimp only at hSw); go_simp; done) | (intro w hSw; (try dsimp only at hSw); go_simp; with_reducible rfl)
        try simp only [Act.put, List.setIfInBounds_toArray, List.set_cons_zero, List.set_cons_succ, List.getElem_toArray, List.getElem_cons_succ, List.getElem_cons_zero]
        refine wpAnyH_take (i := 3) (oi := _) (v := ?_) rfl (by kernel_rfl) (by kernel_rfl) (by kernel_rfl) (fun _ _ _ h => h) (Or.inl ⟨by rfl, ?_⟩) (by assumption) ?_
        rotate_left
        · first | (intro w hSw; (try dsimp only at hSw); go_simp; done) | (intro w hSw; (try dsimp only at hSw); go_simp; with_reducible rfl)
        try simp only [Act.put, List.setIfInBounds_toArray, List.set_cons_zero, List.set_cons_succ, List.getElem_toArray, List.getElem_cons_succ, List.getElem_cons_zero]
        refine wpAnyH_take (i := 4) (oi := _) (v := ?_) rfl (by kernel_rfl) (by kernel_rfl) (by kernel_rfl) (fun _ _ _ h => h) (Or.inl ⟨by rfl, ?_⟩) (by assumption) ?_
        rotate_left
        · first | (intro w hSw; (try dsimp only at hSw); go_simp; done) | (intro w hSw; (try dsimp only at hSw); go_simp; with_reducible rfl)
        try simp only [Act.put, List.setIfInBounds_toArray, List.set_cons_zero, List.set_cons_succ, List.getElem_toArray, List.getElem_cons_succ, List.getElem_cons_zero]
        refine wpAnyH_take (i := 5) (oi := _) (v := ?_) rfl (by kernel_rfl) (by kernel_rfl) (by kernel_rfl) (fun _ _ _ h => h) (Or.inl ⟨by rfl, ?_⟩) (by assumption) ?_
        rotate_left
        · first | (intro w hSw; (try dsimp only at hSw); go_simp; done) | (intro w hSw; (try dsimp only at hSw); go_simp; with_reducible rfl)
        try simp only [Act.put, List.setIfInBounds_toArray, List.set_cons_zero, List.set_cons_succ, List.getElem_toArray, List.getElem_cons_succ, List.getElem_cons_zero]
        refine wpAnyH_done (by kernel_rfl) ?_ _
        have D5 := Lib.hid (H2.out.drew)
        clear KB
        go_wp2_with fail
        go_roundw
        case rel => exact ⟨k + 1, by go_num, by omega, NI2, D5⟩
        case measure => simp [intOf]; omega
    · have g1' : ¬ (k : Int) < (n : Int) := by omega
      have NO := Lib.hid (NI.out.all (by rw [HN.out]; omega))
      clear NI
      go_wp2
      go_ret
      exact ⟨-1, rfl, ⟨fun h => absurd h NO.out, fun h => by omega⟩, DW.out⟩

set_option maxRecDepth 100000 in
set_option maxHeartbeats 1000000 in
/-- slices.Contains at places. -/
theorem phas_any (sl : Option Addr) (cap : Nat) (pl : List LPl) (x y : Int) (w : World) (hn : pl.length ≤ 1048576) (hz : Pls w sl pl) :
    Calls Try.prog 83 #[.slice sl pl.length cap, .agg #[.int .i64 x, .int .i64 y]] w fun e w' => e = .returned (.bool (B ((x, y) ∈ pl))) ∧ Below w.heap.size w w' := by
  have B0 := Lib.hid (bA0 w (.cells #[.int .i64 x, .int .i64 y] 34))
  have E := Lib.hid (pix_any sl cap pl x y _ hn (hz.below B0.out))
  clear hz hn
  cases hb : B ((x, y) ∈ pl) with
  | true =>
    have IN := Lib.hid (B_true hb)
    clear hb
    generalize pl.length = n at *
    go_enter Try.func83, Try.ntmps83
    go_wp2_with fail
    refine E.out.mono ?_
    rintro e w1 ⟨r, rfl, hr, b1⟩
    have D1 := Lib.hid (bT B0.out b1)
    have hr0 := hr.1 IN.out
    clear hr b1
    go_wp2
    go_ret
    exact ⟨rfl, D1.out⟩
  | false =>
    have IN := Lib.hid (B_false hb)
    clear hb
    generalize pl.length = n at *
    go_enter Try.func83, Try.ntmps83
    go_wp2_with fail
    refine E.out.mono ?_
    rintro e w1 ⟨r, rfl, hr, b1⟩
    have D1 := Lib.hid (bT B0.out b1)
    have hr0 : decide (0 ≤ r) = false := by rw [decide_eq_false_iff_not]; exact fun h => IN.out (hr.2 h)
    clear hr b1
    go_wp2
    go_ret
    exact ⟨rfl, D1.out⟩

end Go.Proofs.Ytdmfljejlhlbnaa
namespace Go.Proofs.Ytdmfljejlhlbnaa
open Go.RowKit
set_option linter.unusedVariables false

def SRes.vd : SRes → Int
  | .found _ _ => 1
  | .none _ => 2
  | .out _ => 3
def SRes.pl : SRes → List LPl
  | .found p _ => p
  | .none _ => []
  | .out _ => []
/-- What has been tried, station by station. -/
def natV (tr : List Nat) : Array Value := (tr.map fun (n : Nat) => Value.int .i64 (n : Int)).toArray
def TrAt (w : World) (b : Nat) (tr : List Nat) : Prop := w.heap[b]? = some (.cells (natV tr) 3)
theorem TrAt.lt {w : World} {b : Nat} {tr : List Nat} (h : TrAt w b tr) : b < w.heap.size := (Array.getElem?_eq_some_iff.1 h).1
theorem TrAt.cell {w : World} {b : Nat} {tr : List Nat} (h : TrAt w b tr) (i : Nat) (hi : i < tr.length) : w.cell? ⟨b, i, none⟩ = some (.int .i64 ((tr.getD i 0 : Nat) : Int)) := by
  unfold TrAt at h; simp [World.cell?, h, natV, hi]
theorem TrAt.frozen {w : World} {b : Nat} {tr : List Nat} (h : TrAt w b tr) (i : Nat) : w.frozen? ⟨b, i, none⟩ = false := by
  unfold TrAt at h; simp [World.frozen?, h]
theorem natV_set (tr : List Nat) (i m : Nat) : (natV tr).setIfInBounds i (.int .i64 (m : Int)) = natV (tr.set i m) := by
  unfold natV
  rw [List.setIfInBounds_toArray, ← List.map_set (f := fun (n : Nat) => Value.int .i64 (n : Int))]
theorem TrAt.set {w : World} {b : Nat} {tr : List Nat} (h : TrAt w b tr) (i m : Nat) : TrAt (w.setCell ⟨b, i, none⟩ (.int .i64 (m : Int))) b (tr.set i m) := by
  have := heap_setCell_same w b i (natV tr) 3 (.int .i64 (m : Int)) h
  rwa [natV_set] at this
theorem TrAt.of {w w' : World} {b : Nat} {tr : List Nat} (h : TrAt w b tr) (e : w'.heap[b]? = w.heap[b]?) : TrAt w' b tr := e.trans h
/-- The answer's own block, as it is laid. -/
def BoxP (w : World) (b : Nat) : Prop := w.heap[b]? = some (.cells #[.int .i64 0, .slice none 0 0, .int .i64 0, .int .i64 0] 70)
theorem BoxP.facts {w : World} {b : Nat} (h : BoxP w b) : b < w.heap.size ∧ w.cell? ⟨b, 0, none⟩ = some (.int .i64 0) ∧ w.cell? ⟨b, 1, none⟩ = some (.slice none 0 0) ∧ w.cell? ⟨b, 2, none⟩ = some (.int .i64 0) ∧ w.cell? ⟨b, 3, none⟩ = some (.int .i64 0) ∧ w.frozen? ⟨b, 0, none⟩ = false ∧ w.frozen? ⟨b, 1, none⟩ = false ∧ w.frozen? ⟨b, 2, none⟩ = false ∧ w.frozen? ⟨b, 3, none⟩ = false := by
  unfold BoxP at h
  exact ⟨(Array.getElem?_eq_some_iff.1 h).1, by simp [World.cell?, h], by simp [World.cell?, h], by simp [World.cell?, h], by simp [World.cell?, h], by simp [World.frozen?, h], by simp [World.frozen?, h], by simp [World.frozen?, h], by simp [World.frozen?, h]⟩
def set4 (w : World) (b : Nat) (v0 v1 v2 v3 : Value) : World := (((w.setCell ⟨b, 0, none⟩ v0).setCell ⟨b, 1, none⟩ v1).setCell ⟨b, 2, none⟩ v2).setCell ⟨b, 3, none⟩ v3
theorem set4_below {W w : World} {n b : Nat} (h : Below n W w) (hb : n ≤ b) (v0 v1 v2 v3 : Value) : Below n W (set4 w b v0 v1 v2 v3) :=
  (((h.setCell (p := ⟨b, 0, none⟩) hb v0).setCell (p := ⟨b, 1, none⟩) hb v1).setCell (p := ⟨b, 2, none⟩) hb v2).setCell (p := ⟨b, 3, none⟩) hb v3
end Go.Proofs.Ytdmfljejlhlbnaa
