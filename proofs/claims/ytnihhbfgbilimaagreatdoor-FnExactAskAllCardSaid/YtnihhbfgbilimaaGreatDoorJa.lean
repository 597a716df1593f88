/-
  A LEMMA THAT FOLLOWS: the prover's parts: turned, proverOf, deny, conflict.
-/
import Derived.Test.YtnihhbfgbilimaaGreatDoorUaa
import Derived.Shelf.Spec.TrailingZeros
import Derived.Laws.Rows
import Derived.Laws.Tables
namespace Go.Proofs.YtnihhbfgbilimaaGreatDoor
open Go.RowKit
set_option linter.unusedVariables false
set_option linter.unusedSimpArgs false

/-- Each turned round, as the program does it. -/
def negW (zs : List Int) : List Int := zs.map fun z => wrap64 (-z)
theorem negW_len (zs : List Int) : (negW zs).length = zs.length := by simp [negW]
theorem negW_at (zs : List Int) (k : Nat) (h : k < zs.length) : (negW zs).getD k 0 = wrap64 (-zs.getD k 0) := by simp [negW, h]
theorem row_own {w : World} {g : Nat} {zs : List Int} {n : Nat} (h : RowAt w g (vsOf zs n)) (hn : n = zs.length) (hm : n ≤ maxLen) : w.ownsRow g 2 1 (.slice (some ⟨g, 0, none⟩) n n) zs.length (valsZ zs) := by
  subst hn
  have e : (vsOf zs zs.length).toList = valsZ zs := by simp [vsOf, valsZ]
  have es : (vsOf zs zs.length).size = zs.length := by rw [← Array.length_toList, e]; simp [valsZ]
  refine ⟨by simp [valsZ], .inr ⟨g, zs.length, vsOf zs zs.length, rfl, Nat.le_refl _, h, Nat.le_refl _, hm, by rw [es]; omega, ?_⟩⟩
  rw [e, List.take_of_length_le (by simp [valsZ])]

set_option maxHeartbeats 1000000 in
/-- turned. -/
theorem tuW_any (sl : Option Addr) (cap : Nat) (zs : List Int) (w : World) (hn : zs.length ≤ 1048576) (hz : Ints w sl zs) :
    Calls Tryz.prog 223 #[.slice sl zs.length cap] w fun e w' => e = .returned (.slice (some ⟨w.heap.size, 0, none⟩) zs.length zs.length) ∧ w'.ownsRow w.heap.size 2 1 (.slice (some ⟨w.heap.size, 0, none⟩) zs.length zs.length) (negW zs).length (valsZ (negW zs)) ∧ Below w.heap.size w w' := by
  have hmk := make64 zs.length (by omega)
  have ZC : Hid (∀ W, Below w.heap.size w W → ∀ k, k < zs.length → ∃ c o, sl = some ⟨c, o, none⟩ ∧ W.cell? ⟨c, o + k, none⟩ = some (.int .i64 (zs.getD k 0)) ∧ wrap64 (-zs.getD k 0) = (negW zs).getD k 0) := fun W hW k hk => by
    rcases hz with e | ⟨c, o, e, hi⟩
    · rw [e] at hk; simp at hk
    · exact ⟨c, o, e, (hW.cell hi.1).trans (hi.2 k hk), (negW_at zs k hk).symm⟩
  have HK : Hid (mk64 zs.length = vsOf (negW zs) 0) := by
    have := mk64_eq (negW zs)
    rw [negW_len] at this
    exact this
  have NL := Lib.hid (negW_len zs)
  clear hz
  generalize hN : zs.length = n at *
  have HN : Hid (zs.length = n) := hN
  clear hN
  generalize hY : negW zs = ys at *
  clear hY
  go_enter Tryz.func223, Tryz.ntmps223
  go_wp2
  go_loopw [11] (fun i wr => ∃ (k : Nat), i = .int .i64 k ∧ k ≤ n ∧ Hid (Below w.heap.size w wr) ∧ Hid (RowAt wr w.heap.size (vsOf ys k))) (fun i _ => n - (intOf i).toNat)
  case atStart =>
    refine ⟨0, rfl, Nat.zero_le _, bA0 _ _, ?_⟩
    show (w.heap.push _)[w.heap.size]? = _
    simp [HK.out]
  case round =>
    obtain ⟨k, rfl, hk, H3, H4⟩ := hrel
    have hk0 : (0 : Int) ≤ (k : Int) := by omega
    by_cases h1 : k < n
    · have h1' : (k : Int) < (n : Int) := by omega
      have hlt : k < ys.length := by rw [NL.out]; exact h1
      obtain ⟨c, o, rfl, hc, hwr⟩ := ZC.out wr H3.out k h1
      have hd : wr.cell? ⟨w.heap.size, k, none⟩ = some (.int .i64 0) := by rw [H4.out.cell]; exact vs_at ys k hlt
      have hf := H4.out.frozen k
      have H5 : Hid (RowAt (wr.setCell ⟨w.heap.size, k, none⟩ (.int .i64 (ys.getD k 0))) w.heap.size (vsOf ys (k + 1))) := by
        show RowAt _ _ _
        rw [← vs_step ys k hlt]; exact H4.out.set k _
      clear hlt ZC
      generalize zs.getD k 0 = z at *
      generalize ys.getD k 0 = y at *
      go_wp2
      go_roundw
      case rel => exact ⟨k + 1, by go_num, by omega, H3.out.setCell (Nat.le_refl _) _, H5⟩
      case measure => simp [intOf]; omega
    · have h1' : ¬ (k : Int) < (n : Int) := by omega
      have H6 := Lib.hid (row_own (n := k) H4.out (by rw [NL.out]; omega) (by unfold maxLen; omega))
      have e : k = n := by omega
      subst e
      go_wp2
      go_ret
      exact ⟨rfl, H6.out, H3.out⟩

end Go.Proofs.YtnihhbfgbilimaaGreatDoor
