/-
  MAY A PLACE STAND BESIDE OTHERS? As the program answers it, by a map of the kinds.
-/
import Derived.Test.YtgfclllfkpblnaaPg
import Derived.Test.YtgfclllfkpblnaaAi
namespace Go.Proofs.Ytgfclllfkpblnaa
open Go.RowKit Go.Maps
set_option linter.unusedVariables false

/-- The kind of two stations: that of the last pair of the two, 0 where there is none. -/
def kindF (x : Int × Int) (z : Int) (ps : List LPr) : Int := ps.foldl (fun a p => if ends p = x then p.2.2 else a) z
def kindL (ps : List LPr) (x : Int × Int) : Int := kindF x 0 ps
theorem fold_at (ps : List LPr) (hw : ∀ p ∈ ps, WfP p) (x : Int × Int) (hx : wfI x.1 ∧ wfI x.2) : ∀ (D : DataW Unit) (z : Int), IsMap D → D.atKey (kOf x) (.lit (.int .i64 0)) = .lit (.int .i64 z) → (ps.foldl (fun D p => D.put (kOf (ends p)) (.lit (.int .i64 p.2.2))) D).atKey (kOf x) (.lit (.int .i64 0)) = .lit (.int .i64 (kindF x z ps)) := by
  induction ps with
  | nil => intro D z _ h; exact h
  | cons p r ih =>
    intro D z hD h
    have hp := hw p (by simp)
    rw [List.foldl_cons]
    show _ = DataW.lit (.int .i64 (kindF x (if ends p = x then p.2.2 else z) r))
    refine ih (fun q hq => hw q (by simp [hq])) _ _ (hD.put _ _) ?_
    by_cases e : ends p = x
    · rw [if_pos e, e]
      exact atKey_put_same hD (kOf_key _ hx) _ _
    · rw [if_neg e, atKey_put_other (fun h' => e (kOf_inj hx hp.1 h').symm)]
      exact h
theorem Kd_at (ps : List LPr) (hw : ∀ p ∈ ps, WfP p) (x : Int × Int) (hx : wfI x.1 ∧ wfI x.2) : (Kd ps).atKey (kOf x) (.lit (.int .i64 0)) = .lit (.int .i64 (kindL ps x)) :=
  fold_at ps hw x hx _ 0 isMap_empty (atKey_of_not_has (by simp [Maps.has]) _)

/-- What the closure has: its variable, and in it the map of the kinds. -/
def FitsAt (w : World) (kb : Nat) (ps : List LPr) : Prop := ∃ mb n, w.heap[kb]? = some (.cells #[.map (some mb)] 80) ∧ w.ownsMap Try.prog 83 (plainElem (H := Unit) Try.prog 2) mb n (Kd ps)
theorem FitsAt.lt {w : World} {kb : Nat} {ps : List LPr} (h : FitsAt w kb ps) : kb < w.heap.size := by
  obtain ⟨_, _, h1, _⟩ := h
  exact (Array.getElem?_eq_some_iff.1 h1).1
theorem FitsAt.below {w w' : World} {kb : Nat} {ps : List LPr} (h : FitsAt w kb ps) (hb : Below w.heap.size w w') : FitsAt w' kb ps := by
  have hl := h.lt
  obtain ⟨mb, n, h1, h2⟩ := h
  exact ⟨mb, n, (hb.block kb hl).trans h1, h2.belowM hb⟩

abbrev FV (kb : Nat) : Value := .func (.func 39) #[] #[.pointer (some ⟨kb, 0, none⟩)]
set_option maxRecDepth 100000 in
set_option maxHeartbeats 1000000 in
/-- impl.besideIn. -/
theorem bi_any (sl : Option Addr) (n cap : Nat) (sl2 : Option Addr) (cap2 : Nat) (ps : List LPr) (w : World) (hn : ps.length ≤ 1000) (hp : Prs w sl2 ps) (hw : ∀ p ∈ ps, WfP p) :
    Calls Try.prog 25 #[TV sl n cap sl2 ps.length cap2] w fun e w' => ∃ kb, e = .returned (FV kb) ∧ FitsAt w' kb ps ∧ Below w.heap.size w w' := by
  have hmf : ∀ (fn : Fn) (first cap : Array Value) (w : World), (Instr.makeFunc fn first cap).run Try.prog w = .ok (.func fn first cap) w := fun _ _ _ _ => rfl
  have K1 := Lib.hid (ks_any sl2 cap2 ps (w.alloc (.cells #[.slice sl n cap, .slice sl2 ps.length cap2] 26)) hn (hp.below (bA0 _ _)) hw)
  have B0 := Lib.hid (bA0 w (.cells #[.slice sl n cap, .slice sl2 ps.length cap2] 26))
  clear hp hw
  generalize ps.length = m at *
  go_enter Try.func25, Try.ntmps25
  go_wp2_with fail
  generalize w.alloc (.cells #[.slice sl n cap, .slice sl2 m cap2] 26) = w0 at *
  refine K1.out.mono ?_
  rintro e w1 ⟨rfl, hm, b1⟩
  have D1 := Lib.hid (bA (bT B0.out b1) (.cells #[.map (some w0.heap.size)] 80))
  have F1 : Hid (FitsAt (w1.alloc (.cells #[.map (some w0.heap.size)] 80)) w1.heap.size ps) := ⟨_, _, new_at _ _, hm.belowM (bA0 _ _)⟩
  clear hm b1 K1
  go_wp2
  go_ret
  exact ⟨_, rfl, F1.out, D1.out⟩

/-- How far apart two channels are. -/
def apartI (c d : Int) : Int := max c d - min c d
def keyI (a b : Int) : Int × Int := (min a b, max a b)
def fitB (ps : List LPr) (pl : List LPl) (x : LPl) : Bool := pl.all fun o => decide (kindL ps (keyI o.1 x.1) ≤ apartI o.2 x.2)
def Small (p : LPl) : Prop := (0 ≤ p.1 ∧ p.1 ≤ 1000) ∧ (0 ≤ p.2 ∧ p.2 ≤ 1000)

set_option maxRecDepth 100000 in
set_option maxHeartbeats 2000000 in
/-- The closure of impl.besideIn. -/
theorem fit_any (sl : Option Addr) (cap : Nat) (pl : List LPl) (x y : Int) (kb : Nat) (ps : List LPr) (w : World) (hn : pl.length ≤ 1048576) (hz : Pls w sl pl) (hs : ∀ p ∈ pl, Small p) (hx : Small (x, y)) (hw : ∀ p ∈ ps, WfP p) (hf : FitsAt w kb ps) :
    Calls Try.prog 39 #[.slice sl pl.length cap, .agg #[.int .i64 x, .int .i64 y], .pointer (some ⟨kb, 0, none⟩)] w fun e w' => e = .returned (.bool (fitB ps pl (x, y))) ∧ Below w.heap.size w w' := by
  have B0 := Lib.hid (bA0 w (.cells #[.int .i64 x, .int .i64 y] 62))
  have HX := Lib.hid (show (w.alloc (.cells #[.int .i64 x, .int .i64 y] 62)).heap[w.heap.size]? = some (.cells #[.int .i64 x, .int .i64 y] 62) from new_at _ _)
  have F0 := Lib.hid (hf.below (bA0 w (.cells #[.int .i64 x, .int .i64 y] 62)))
  have HZ := Lib.hid hz
  have HS := Lib.hid hs
  have HW := Lib.hid hw
  have XS := Lib.hid hx
  clear hz hs hw hf
  obtain ⟨⟨x1, x2⟩, ⟨y1, y2⟩⟩ := hx
  dsimp only at x1 x2 y1 y2
  generalize hR : fitB ps pl (x, y) = r
  have HR := Lib.hid hR
  clear hR
  generalize hN : pl.length = n at *
  have HN := Lib.hid hN
  clear hN
  go_enter Try.func39, Try.ntmps39
  go_wp2
  generalize w.alloc (.cells #[.int .i64 x, .int .i64 y] 62) = w0 at *
  go_loopw [11] (fun i wr => ∃ k : Nat, i = .int .i64 k ∧ k ≤ n ∧ Hid (r = fitB ps (pl.drop k) (x, y)) ∧ Hid (Below w0.heap.size w0 wr)) (fun i _ => n - (intOf i).toNat)
  case atStart => exact ⟨0, rfl, Nat.zero_le _, HR.out.symm, Below.refl _ _⟩
  case round =>
    obtain ⟨k, rfl, hk, HM, H2⟩ := hrel
    have hk0 : (0 : Int) ≤ (k : Int) := by omega
    have DW := Lib.hid (bT B0.out H2.out)
    by_cases h1 : k < n
    · have h1' : (k : Int) < (n : Int) := by omega
      have hlt : k < pl.length := by rw [HN.out]; exact h1
      obtain ⟨g, o, rfl, Z0⟩ : ∃ c o, sl = some ⟨c, o, none⟩ ∧ PlAt w c o pl := by
        rcases HZ.out with e | h
        · rw [e] at hlt; simp at hlt
        · exact h
      have g0 := (DW.out.cell Z0.lt).trans (Z0.cell k hlt).1
      have g1 := (DW.out.cell Z0.lt).trans (Z0.cell k hlt).2
      have SM := HS.out pl[k] (List.getElem_mem hlt)
      have FA := Lib.hid (show fitB ps (pl.drop k) (x, y) = (decide (kindL ps (keyI pl[k].1 x) ≤ apartI pl[k].2 y) && fitB ps (pl.drop (k + 1)) (x, y)) by
        rw [← List.getElem_cons_drop (h := hlt)]; rfl)
      obtain ⟨a, c, hp⟩ : ∃ a c, pl[k] = (a, c) := ⟨_, _, rfl⟩
      rw [hp] at g0 g1 SM FA
      obtain ⟨⟨a1, a2⟩, ⟨c1, c2⟩⟩ := SM
      dsimp only at g0 g1 a1 a2 c1 c2 FA
      have hxb := Lib.hid ((H2.out.block w.heap.size (Array.getElem?_eq_some_iff.1 HX.out).1).trans HX.out)
      have xl : w.heap.size < wr.heap.size := (Array.getElem?_eq_some_iff.1 hxb.out).1
      have xc0 : wr.cell? ⟨w.heap.size, 0, none⟩ = some (.int .i64 x) := by simp [World.cell?, hxb.out]
      have xc1 : wr.cell? ⟨w.heap.size, 1, none⟩ = some (.int .i64 y) := by simp [World.cell?, hxb.out]
      have F2 := F0.out.below H2.out
      have kbl := F2.lt
      obtain ⟨mb, mn, f1, f2⟩ := F2
      have fc : wr.cell? ⟨kb, 0, none⟩ = some (.map (some mb)) := by simp [World.cell?, f1]
      have OM := Lib.hid (f2.belowM (bA0 wr (.cells #[.int .i64 a, .int .i64 c] 62)))
      clear hp hlt Z0 hxb f1 f2
      have wk : wfI (min a x) ∧ wfI (max a x) := ⟨wf_small (by omega), wf_small (by omega)⟩
      have KK := Lib.hid (key_is (min a x, max a x) wk)
      have KE : Hid (∀ cc : Int, (Kd ps).atKey (kOf (min a x, max a x)) (.lit (.int .i64 0)) = .lit (.int .i64 cc) → cc = kindL ps (min a x, max a x)) := fun cc h => by
        rw [Kd_at ps HW.out _ wk] at h
        simpa using h.symm
      have hwr := H2.out.size
      have B5 := Lib.hid (bA H2.out (.cells #[.int .i64 a, .int .i64 c] 62))
      have B6 := Lib.hid (bA DW.out (.cells #[.int .i64 a, .int .i64 c] 62))
      clear wk
      by_cases hv : kindL ps (min a x, max a x) ≤ max c y - min c y
      · have hv' : ¬ max c y - min c y < kindL ps (min a x, max a x) := by omega
        have HM2 := Lib.hid (show r = fitB ps (pl.drop (k + 1)) (x, y) by
          rw [HM.out, FA.out]
          unfold keyI apartI
          rw [decide_eq_true hv, Bool.true_and])
        clear HM FA
        go_wp2_with (first | (at_lookup; refine wpList_lookup_own_int _ rfl _ _ 80 rfl 83 2 .i64 law63 Try.underlying80 Try.underlying2 (Try.zeroValue2 _) mb mn (Kd ps) rfl OM.out _ _ rfl KK.out ?_; intro cc hat hwc; have hcc := KE.out cc hat; subst hcc; clear hat hwc))
        go_roundw
        case rel => exact ⟨k + 1, by go_num, by omega, HM2, B5⟩
        case measure => simp [intOf]; omega
      · have hv' : max c y - min c y < kindL ps (min a x, max a x) := by omega
        have R := Lib.hid (show r = false by
          rw [HM.out, FA.out]
          unfold keyI apartI
          rw [decide_eq_false hv, Bool.false_and])
        clear HM FA
        go_wp2_with (first | (at_lookup; refine wpList_lookup_own_int _ rfl _ _ 80 rfl 83 2 .i64 law63 Try.underlying80 Try.underlying2 (Try.zeroValue2 _) mb mn (Kd ps) rfl OM.out _ _ rfl KK.out ?_; intro cc hat hwc; have hcc := KE.out cc hat; subst hcc; clear hat hwc))
        go_ret
        exact ⟨by rw [R.out]; rfl, B6.out⟩
    · have h1' : ¬ (k : Int) < (n : Int) := by omega
      have R := Lib.hid (show r = true by rw [HM.out, List.drop_eq_nil_of_le (by rw [HN.out]; omega)]; rfl)
      clear HM
      go_wp2
      go_ret
      exact ⟨by rw [R.out]; rfl, DW.out⟩

end Go.Proofs.Ytgfclllfkpblnaa
