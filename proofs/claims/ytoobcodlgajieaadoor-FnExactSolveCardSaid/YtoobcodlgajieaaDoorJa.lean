/-
  A LEMMA THAT FOLLOWS: the prover's parts: turned, proverOf, deny, conflict.
-/
import Derived.Test.YtoobcodlgajieaaDoorIa
import Derived.Test.YtoobcodlgajieaaDoorUaa
import Derived.Laws.Rows
import Derived.Laws.Tables
namespace Go.Proofs.YtoobcodlgajieaaDoor
open Go.RowKit
set_option linter.unusedVariables false
set_option linter.unusedSimpArgs false

/-- Each turned round, as the program does it. -/
def negW (zs : List Int) : List Int := zs.map fun z => wrap64 (-z)
theorem negW_len (zs : List Int) : (negW zs).length = zs.length := by simp [negW]
theorem negW_at (zs : List Int) (k : Nat) (h : k < zs.length) : (negW zs).getD k 0 = wrap64 (-zs.getD k 0) := by simp [negW, h]
theorem okz_neg {vars z : Int} (hz : -9223372036854775808 ≤ z ∧ z ≤ 9223372036854775807) (hv : vars ≤ 96) : OkZ vars (wrap64 (-z)) ↔ OkZ vars z := by
  by_cases e : z = -9223372036854775808
  · subst e
    have : wrap64 (-(-9223372036854775808)) = -9223372036854775808 := by kernel_rfl
    rw [this]
  · have : wrap64 (-z) = -z := wrap_in _ ⟨by omega, by omega⟩
    rw [this]
    unfold OkZ
    constructor <;> intro h <;> omega
theorem negW_sp {vars : Int} {zs : List Int} (hv : vars ≤ 96) (hz : ∀ z ∈ zs, -9223372036854775808 ≤ z ∧ z ≤ 9223372036854775807) : SpTo vars (negW zs) zs.length ↔ SpTo vars zs zs.length := by
  have hb : ∀ k, k < zs.length → -9223372036854775808 ≤ zs.getD k 0 ∧ zs.getD k 0 ≤ 9223372036854775807 := fun k hk => hz _ (by simp [hk])
  have small : ∀ z : Int, OkZ vars z → wrap64 (-z) = -z := fun z h => wrap_in _ (by unfold OkZ at h; constructor <;> omega)
  constructor
  · intro h i hi
    have h1 := h i hi
    rw [negW_at zs i hi] at h1
    have o1 := (okz_neg (hb i hi) hv).1 h1.1
    refine ⟨o1, fun j hj => ?_⟩
    have hj' : j < zs.length := by omega
    have h2 := h1.2 j hj
    have g1 := (h j hj').1
    rw [negW_at zs j hj'] at g1
    have o2 := (okz_neg (hb j hj') hv).1 g1
    rw [negW_at zs i hi, negW_at zs j hj', small _ o1, small _ o2] at h2
    omega
  · intro h i hi
    have o1 := (h i hi).1
    refine ⟨by rw [negW_at zs i hi]; exact (okz_neg (hb i hi) hv).2 o1, fun j hj => ?_⟩
    have hj' : j < zs.length := by omega
    have o2 := (h j hj').1
    have h2 := (h i hi).2 j hj
    rw [negW_at zs i hi, negW_at zs j hj', small _ o1, small _ o2]
    omega
theorem negW_small {vars : Int} {zs : List Int} (hv : vars ≤ 96) (h : SpTo vars zs zs.length) : negW zs = zs.map fun z => -z := by
  unfold negW
  refine List.map_congr_left (fun z hz => ?_)
  obtain ⟨i, hi, rfl⟩ := List.getElem_of_mem hz
  have := (h i hi).1
  rw [show zs.getD i 0 = zs[i] by simp [List.getD_eq_getElem?_getD, hi]] at this
  exact wrap_in _ (by unfold OkZ at this; constructor <;> omega)
theorem row_own {w : World} {g : Nat} {zs : List Int} {n : Nat} (h : RowAt w g (vsOf zs n)) (hn : n = zs.length) (hm : n ≤ maxLen) : w.ownsRow g 2 1 (.slice (some ⟨g, 0, none⟩) n n) zs.length (valsZ zs) := by
  subst hn
  have e : (vsOf zs zs.length).toList = valsZ zs := by simp [vsOf, valsZ]
  have es : (vsOf zs zs.length).size = zs.length := by rw [← Array.length_toList, e]; simp [valsZ]
  refine ⟨by simp [valsZ], .inr ⟨g, zs.length, vsOf zs zs.length, rfl, Nat.le_refl _, h, Nat.le_refl _, hm, by rw [es]; omega, ?_⟩⟩
  rw [e, List.take_of_length_le (by simp [valsZ])]

set_option maxHeartbeats 1000000 in
/-- turned. -/
theorem tuW_any (sl : Option Addr) (cap : Nat) (zs : List Int) (w : World) (hn : zs.length ≤ 1048576) (hz : Ints w sl zs) :
    Calls Tryd.prog 103 #[.slice sl zs.length cap] w fun e w' => e = .returned (.slice (some ⟨w.heap.size, 0, none⟩) zs.length zs.length) ∧ w'.ownsRow w.heap.size 2 1 (.slice (some ⟨w.heap.size, 0, none⟩) zs.length zs.length) (negW zs).length (valsZ (negW zs)) ∧ Below w.heap.size w w' := by
  have hmk := make64 zs.length (by omega)
  have ZC : Hid (∀ W, Below w.heap.size w W → ∀ k, k < zs.length → ∃ c o, sl = some ⟨c, o, none⟩ ∧ W.cell? ⟨c, o + k, none⟩ = some (.int .i64 (zs.getD k 0)) ∧ wrap64 (-zs.getD k 0) = (negW zs).getD k 0) := fun W hW k hk => by
    rcases hz with e | ⟨c, o, e, hi⟩
    · rw [e] at hk; simp at hk
    · exact ⟨c, o, e, (hW.cell hi.1).trans (hi.2 k hk), (negW_at zs k hk).symm⟩
  have HK : Hid (mk64 zs.length = vsOf (negW zs) 0) := by
    have := mk64_eq (negW zs)
    rw [negW_len] at this
    exact this
  have NL := Lib.hid (negW_len zs)
  clear hz
  generalize hN : zs.length = n at *
  have HN : Hid (zs.length = n) := hN
  clear hN
  generalize hY : negW zs = ys at *
  clear hY
  go_enter Tryd.func103, Tryd.ntmps103
  go_wp2
  go_loopw [11] (fun i wr => ∃ (k : Nat), i = .int .i64 k ∧ k ≤ n ∧ Hid (Below w.heap.size w wr) ∧ Hid (RowAt wr w.heap.size (vsOf ys k))) (fun i _ => n - (intOf i).toNat)
  case atStart =>
    refine ⟨0, rfl, Nat.zero_le _, bA0 _ _, ?_⟩
    show (w.heap.push _)[w.heap.size]? = _
    simp [HK.out]
  case round =>
    obtain ⟨k, rfl, hk, H3, H4⟩ := hrel
    have hk0 : (0 : Int) ≤ (k : Int) := by omega
    by_cases h1 : k < n
    · have h1' : (k : Int) < (n : Int) := by omega
      have hlt : k < ys.length := by rw [NL.out]; exact h1
      obtain ⟨c, o, rfl, hc, hwr⟩ := ZC.out wr H3.out k h1
      have hd : wr.cell? ⟨w.heap.size, k, none⟩ = some (.int .i64 0) := by rw [H4.out.cell]; exact vs_at ys k hlt
      have hf := H4.out.frozen k
      have H5 : Hid (RowAt (wr.setCell ⟨w.heap.size, k, none⟩ (.int .i64 (ys.getD k 0))) w.heap.size (vsOf ys (k + 1))) := by
        show RowAt _ _ _
        rw [← vs_step ys k hlt]; exact H4.out.set k _
      clear hlt ZC
      generalize zs.getD k 0 = z at *
      generalize ys.getD k 0 = y at *
      go_wp2
      go_roundw
      case rel => exact ⟨k + 1, by go_num, by omega, H3.out.setCell (Nat.le_refl _) _, H5⟩
      case measure => simp [intOf]; omega
    · have h1' : ¬ (k : Int) < (n : Int) := by omega
      have H6 := Lib.hid (row_own (n := k) H4.out (by rw [NL.out]; omega) (by unfold maxLen; omega))
      have e : k = n := by omega
      subst e
      go_wp2
      go_ret
      exact ⟨rfl, H6.out, H3.out⟩

/-- A prover's fields. -/
abbrev PFh (vars : Int) (bb : Nat) : List Value := [.int .i64 vars, .pointer (some ⟨bb, 0, none⟩), .int .i64 0, .bool false, .bool false]
theorem fld5 {vars : Int} {bb b : Nat} {tr : List Int} {w : World} (h : VAt 5 87 (PFh vars bb) w b tr) : b < w.heap.size ∧ w.cell? ⟨b, 0, none⟩ = some (.int .i64 vars) ∧ w.cell? ⟨b, 1, none⟩ = some (.pointer (some ⟨bb, 0, none⟩)) := by
  refine ⟨h.lt, ?_, ?_⟩ <;> simp [World.cell?, h.2]

set_option maxRecDepth 100000 in
set_option maxHeartbeats 4000000 in
/-- prover.deny. -/
theorem deny_any {vars : Int} {bb b : Nat} {tr : List Int} (sl : Option Addr) (cap : Nat) (zs : List Int) (w : World) (hv : VAt 5 87 (PFh vars bb) w b tr) (hv0 : 0 ≤ vars) (hv1 : vars ≤ 96) (hn : zs.length ≤ 1048576) (hz : Ints w sl zs) (hb : ∀ z ∈ zs, -9223372036854775808 ≤ z ∧ z ≤ 9223372036854775807) :
    Calls Tryd.prog 71 #[.pointer (some ⟨b, 0, none⟩), .slice sl zs.length cap] w fun e w' => e = .returned (.bool (B (SpTo vars zs zs.length))) ∧ (SpTo vars zs zs.length → VAt 5 87 (PFh vars bb) w' b (negW zs)) ∧ Only b w w' := by
  have TU : Hid (∀ W, Below w.heap.size w W → Calls Tryd.prog 103 #[.slice sl zs.length cap] W fun e w' => e = .returned (.slice (some ⟨W.heap.size, 0, none⟩) zs.length zs.length) ∧ w'.ownsRow W.heap.size 2 1 (.slice (some ⟨W.heap.size, 0, none⟩) zs.length zs.length) (negW zs).length (valsZ (negW zs)) ∧ Below W.heap.size W w') := fun W hW => tuW_any sl cap zs W hn (hz.below hW)
  have TK : Hid (∀ W g, Below w.heap.size w W → w.heap.size ≤ g → W.ownsRow g 2 1 (.slice (some ⟨g, 0, none⟩) zs.length zs.length) (negW zs).length (valsZ (negW zs)) → Calls Tryd.prog 53 #[.pointer (some ⟨b, 5, none⟩), .slice (some ⟨g, 0, none⟩) zs.length zs.length, .int .i64 vars] W fun e w' => e = .returned (.bool (B (SpTo vars zs zs.length))) ∧ (SpTo vars zs zs.length → VAt 5 87 (PFh vars bb) w' b (negW zs)) ∧ Only b w w') := fun W g hW hg ho => by
    have hv' := hv.below hW
    obtain ⟨s, k, e, hi⟩ := own_ints (zs := negW zs) (by rw [negW_len] at ho ⊢; exact ho)
    rw [negW_len] at e
    cases e
    have := take_any b vars (some ⟨g, 0, none⟩) zs.length (negW zs) W hv'.blkA hv0 hv1 (by rw [negW_len]; unfold maxLen; omega) (by
      rcases hi with e | ⟨c, o, e, hi⟩
      · exact .inl e
      · cases e
        exact .inr ⟨g, 0, rfl, hi, by have := hv.lt; omega⟩)
    rw [negW_len] at this
    refine this.mono ?_
    rintro e w' ⟨rfl, h1, h2, h3⟩
    rw [B_iff (negW_sp hv1 hb)]
    exact ⟨rfl, fun h => h1 ((negW_sp hv1 hb).2 h), (Only.of_below hW).trans h2⟩
  have FC : Hid (∀ W, Below w.heap.size w W → b < W.heap.size ∧ W.cell? ⟨b, 0, none⟩ = some (.int .i64 vars)) := fun W hW => by
    obtain ⟨h1, h2, h3⟩ := fld5 (hv.below hW)
    exact ⟨h1, h2⟩
  obtain ⟨f0, f1⟩ := FC.out w (Below.refl _ _)
  have hsz := hv.lt
  clear hv hz hb
  generalize (B (SpTo vars zs zs.length)) = r at *
  generalize hN : (negW zs).length = nn at *
  clear hN
  generalize hQ : SpTo vars zs zs.length = Q at *
  clear hQ
  generalize zs.length = n at *
  go_enter Tryd.func71, Tryd.ntmps71
  go_wp2_with fail
  go_region_with (first | (go_at_call 103; refine (TU.out _ (below_drew' _)).mono ?_; rintro e w1 ⟨rfl, o1, b1⟩; have B1 := Lib.hid (bT (below_drew' w) b1); have O1 := Lib.hid o1; obtain ⟨g0, g1⟩ := FC.out _ B1.out; clear o1 b1) | (go_at_call 53; refine (TK.out _ _ B1.out (Nat.le_refl _) O1.out).mono ?_; rintro e w2 ⟨rfl, h1, h2⟩; have P2 := Lib.hid (And.intro h1 h2); clear h1 h2))
  all_goals
    go_wp2
    go_ret
    exact ⟨rfl, P2.out⟩

end Go.Proofs.YtoobcodlgajieaaDoor
