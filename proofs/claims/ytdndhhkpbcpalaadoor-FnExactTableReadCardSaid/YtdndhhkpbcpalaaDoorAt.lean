/-
  A TABLE OF ONE'S OWN, marked: what turns and what does not.
-/
import Derived.Test.YtdndhhkpbcpalaaDoorAs
namespace Go.Proofs.YtdndhhkpbcpalaaDoor
open Go.RowKit
set_option linter.unusedVariables false

theorem totD_nonneg (rs : List LSt) (j : Nat) : (0 : Int) ≤ (totD (rs.take j) : Int) := by omega

set_option maxRecDepth 100000 in
set_option maxHeartbeats 1000000 in
theorem mkS_any (C L b : Nat) (rs : List LSt) (k : Int) (hn : rs.length + totD rs ≤ 1048576) (k0 : 0 ≤ k) (k1 : k ≤ 10000000) (w : World) (h : StM C L w b rs) :
    Calls Tryd.prog 27 #[.slice (some ⟨b, 0, none⟩) rs.length rs.length, .int .i64 k] w fun e w' => e = .returned (.int .i64 (k + 2 * (rs.length : Int) + (totD rs : Int))) ∧ Keep w w' ∧ Btw C L w w' := by
  have H := Lib.hid h
  have hlo := h.lo
  have hhi := h.hi
  clear h
  have TD := Lib.hid (fun j => totD_le rs j)
  generalize hN : rs.length = n at *
  have HN := Lib.hid hN
  clear hN
  go_enter Tryd.func27, Tryd.ntmps27
  go_wp2
  go_loopw [1, 5] (fun m i wr => ∃ j : Nat, i = .int .i64 j ∧ m = .int .i64 (k + 2 * (j : Int) + (totD (rs.take j) : Int)) ∧ j ≤ n ∧ Hid (StM C L wr b rs) ∧ Hid (Keep w wr) ∧ Hid (Btw C L w wr)) (fun _ i _ => n - (intOf i).toNat)
  case atStart => exact ⟨0, rfl, by simp [totD], Nat.zero_le _, H, Keep.refl _, Btw.refl _ _ _⟩
  case round =>
    obtain ⟨j, rfl, rfl, hj, H1, KP, H2⟩ := hrel
    have hj0 : (0 : Int) ≤ (j : Int) := by omega
    by_cases h1 : j < n
    · have h1' : (j : Int) < (n : Int) := by omega
      have hlt : j < rs.length := by rw [HN.out]; exact h1
      have tn := totD_take rs j hlt
      have t1 := TD.out (j + 1)
      obtain ⟨g, us, eg, hg, hus, g1, g2⟩ := H1.out.dom rs[j] (List.getElem_mem hlt)
      obtain ⟨⟨v0, c0⟩, f0⟩ := H1.out.there (j * 3) (by rw [HN.out]; omega)
      obtain ⟨⟨v1, c1⟩, f1⟩ := H1.out.there (j * 3 + 1) (by rw [HN.out]; omega)
      have c2 := H1.out.at j hlt
      rw [eg] at c2
      have TN := Lib.hid tn
      generalize hS : totD (rs.take j) = s at *
      have hz0 : 0 ≤ k + 2 * (j : Int) + (s : Int) ∧ k + 2 * (j : Int) + (s : Int) ≤ 15000000 := by omega
      generalize hZ : k + 2 * (j : Int) + (s : Int) = z at *
      obtain ⟨z0, z1⟩ := hz0
      have O1 := Lib.hid (((Only.refl b wr).setCell (j * 3) (.int .i64 z)).setCell (j * 3 + 1) (.int .i64 (z + 1)))
      have S1 := Lib.hid ((H1.out.kind (j * 3) (fun i => by omega) (.int .i64 z)).kind (j * 3 + 1) (fun i => by omega) (.int .i64 (z + 1)))
      have K1 : Hid (Keep w ((wr.setCell ⟨b, j * 3, none⟩ (.int .i64 z)).setCell ⟨b, j * 3 + 1, none⟩ (.int .i64 (z + 1)))) := by
        obtain ⟨vs, r1, -, -⟩ := H1.out.row
        exact KP.out.trans (Keep.only O1.out r1 (by decide))
      have B1 := Lib.hid (H2.out.only O1.out hlo hhi)
      obtain ⟨g', us', eg', hg', hus', -, -⟩ := S1.out.dom rs[j] (List.getElem_mem hlt)
      obtain rfl : g = g' := by rw [eg] at eg'; simpa using eg'
      generalize rs[j].2.2.2.length = q at *
      have M1 := Lib.hid (mark_some g q us'.size q (z + 1 + 1) (by omega) (by omega) (by omega) (by omega) _ ⟨us', hg', rfl, fun i hi => absurd hi (Nat.not_lt_zero _)⟩)
      have HG := Lib.hid hg'
      have ZE := Lib.hid hZ
      clear hg hg' hus hus' eg eg' hlt O1 H1 tn hS hZ
      go_wp2_with fail
      refine M1.out.mono ?_
      rintro e w2 ⟨rfl, ⟨us2, m1, m2, -⟩, o2⟩
      have S2 := Lib.hid (S1.out.rowed us' us2 HG.out m1 m2 o2)
      have K2 := Lib.hid (K1.out.trans (Keep.only o2 HG.out (by decide)))
      have B2 := Lib.hid (B1.out.only o2 g1 g2)
      clear m1 m2 o2 M1 S1 K1 B1 HG KP H2
      go_wp2
      go_roundw
      case rel => exact ⟨j + 1, by go_num, by have t9 := TN.out; have z9 := ZE.out; rw [t9]; congr 1; push_cast; omega, by omega, S2, K2, B2⟩
      case measure => simp [intOf]; omega
    · have h1' : ¬ (j : Int) < (n : Int) := by omega
      have P := Lib.hid (show (k + 2 * (j : Int) + (totD (rs.take j) : Int)) = k + 2 * (n : Int) + (totD rs : Int) ∧ Keep w wr ∧ Btw C L w wr from by
        refine ⟨?_, KP.out, H2.out⟩
        rw [List.take_of_length_le (by rw [HN.out]; omega)]
        omega)
      clear KP H2 H1
      go_wp2
      go_ret
      exact ⟨by rw [← P.out.1]; rfl, P.out.2.1, P.out.2.2⟩

/-- A row of m pairs. -/
def PrM (w : World) (b m : Nat) : Prop := ∃ vs : Array Value, w.heap[b]? = some (.cells vs 47) ∧ vs.size = m * 3
theorem PrM.set {w : World} {b m : Nat} (h : PrM w b m) (o : Nat) (v : Value) : PrM (w.setCell ⟨b, o, none⟩ v) b m := by
  obtain ⟨vs, h1, h2⟩ := h
  exact ⟨_, heap_setCell_same w b o vs 47 v h1, by simp [h2]⟩
theorem PrM.there {w : World} {b m : Nat} (h : PrM w b m) (j : Nat) (hj : j < m * 3) : (∃ v, w.cell? ⟨b, j, none⟩ = some v) ∧ w.frozen? ⟨b, j, none⟩ = false := by
  obtain ⟨vs, h1, h2⟩ := h
  exact ⟨⟨vs[j]'(by omega), by simp [World.cell?, h1, show j < vs.size by omega]⟩, by simp [World.frozen?, h1]⟩

set_option maxRecDepth 100000 in
set_option maxHeartbeats 1000000 in
theorem mkP_any (b m : Nat) (k : Int) (hn : m ≤ 1048576) (k0 : 0 ≤ k) (k1 : k ≤ 20000000) (w : World) (h : PrM w b m) :
    Calls Tryd.prog 28 #[.slice (some ⟨b, 0, none⟩) m m, .int .i64 k] w fun e w' => e = .returned (.int .i64 (k + 3 * (m : Int))) ∧ Only b w w' := by
  have H := Lib.hid h
  clear h
  go_enter Tryd.func28, Tryd.ntmps28
  go_wp2
  go_loopw [1, 5] (fun v i wr => ∃ j : Nat, i = .int .i64 j ∧ v = .int .i64 (k + 3 * (j : Int)) ∧ j ≤ m ∧ Hid (PrM wr b m) ∧ Hid (Only b w wr)) (fun _ i _ => m - (intOf i).toNat)
  case atStart => exact ⟨0, rfl, by simp, Nat.zero_le _, H, Only.refl _ _⟩
  case round =>
    obtain ⟨j, rfl, rfl, hj, H1, H2⟩ := hrel
    have hj0 : (0 : Int) ≤ (j : Int) := by omega
    by_cases h1 : j < m
    · have h1' : (j : Int) < (m : Int) := by omega
      obtain ⟨⟨v0, c0⟩, f0⟩ := H1.out.there (j * 3) (by omega)
      obtain ⟨⟨v1, c1⟩, f1⟩ := H1.out.there (j * 3 + 1) (by omega)
      obtain ⟨⟨v2, c2⟩, f2⟩ := H1.out.there (j * 3 + 2) (by omega)
      have S2 := Lib.hid (((H1.out.set (j * 3) (.int .i64 (k + 3 * (j : Int)))).set (j * 3 + 1) (.int .i64 (k + 3 * (j : Int) + 1))).set (j * 3 + 2) (.int .i64 (k + 3 * (j : Int) + 1 + 1)))
      have B2 := Lib.hid (((H2.out.setCell (j * 3) (.int .i64 (k + 3 * (j : Int)))).setCell (j * 3 + 1) (.int .i64 (k + 3 * (j : Int) + 1))).setCell (j * 3 + 2) (.int .i64 (k + 3 * (j : Int) + 1 + 1)))
      clear H1 H2
      go_wp2
      go_roundw
      case rel => exact ⟨j + 1, by go_num, by congr 1; push_cast; omega, by omega, S2, B2⟩
      case measure => simp [intOf]; omega
    · have h1' : ¬ (j : Int) < (m : Int) := by omega
      have P := Lib.hid (show (k + 3 * (j : Int)) = k + 3 * (m : Int) by omega)
      go_wp2
      go_ret
      exact ⟨by rw [← P.out]; rfl, H2.out⟩

set_option maxRecDepth 100000 in
set_option maxHeartbeats 1000000 in
/-- markTable. -/
theorem mkT_any (C L b1 b2 : Nat) (rs : List LSt) (m : Nat) (hn : rs.length + totD rs + m ≤ 1048576) (w : World) (h : StM C L w b1 rs) (h2 : PrM w b2 m) (l1 : C ≤ b2) (l2 : b2 < L) (hL : L ≤ w.heap.size) :
    Calls Tryd.prog 14 #[TV (some ⟨b1, 0, none⟩) rs.length rs.length (some ⟨b2, 0, none⟩) m m, .int .i64 1] w fun e w' => ∃ k : Int, 0 ≤ k ∧ e = .returned (.int .i64 k) ∧ Btw C L w w' := by
  have E1 := Lib.hid (mkS_any C L b1 rs 1 (by omega) (by omega) (by omega) _ (h.below (bA0 w (.cells #[.slice (some ⟨b1, 0, none⟩) rs.length rs.length, .slice (some ⟨b2, 0, none⟩) m m] 25))))
  have E2 : Hid (∀ (k : Int) (W : World), 0 ≤ k → k ≤ 20000000 → PrM W b2 m → Calls Tryd.prog 28 #[.slice (some ⟨b2, 0, none⟩) m m, .int .i64 k] W fun e w' => e = .returned (.int .i64 (k + 3 * (m : Int))) ∧ Only b2 W w') := fun k W a b c => mkP_any b2 m k (by omega) a b W c
  have PM := Lib.hid h2
  have HT := Lib.hid (TabAt.new w (some ⟨b1, 0, none⟩) rs.length rs.length (some ⟨b2, 0, none⟩) m m)
  have hK : (0 : Int) ≤ 1 + 2 * (rs.length : Int) + (totD rs : Int) ∧ 1 + 2 * (rs.length : Int) + (totD rs : Int) ≤ 20000000 := by omega
  clear h h2
  generalize 1 + 2 * (rs.length : Int) + (totD rs : Int) = k at *
  generalize rs.length = n at *
  obtain ⟨k0, k1⟩ := hK
  go_enter Tryd.func14, Tryd.ntmps14
  go_wp2_with fail
  refine E1.out.mono ?_
  rintro e w1 ⟨rfl, kp, b1'⟩
  have PM1 : Hid (PrM w1 b2 m) := by
    obtain ⟨vs, q1, q2⟩ := PM.out
    exact ⟨vs, kp _ _ (Keep.below (bA0 w _) _ _ q1), q2⟩
  have T1 := Lib.hid ((b1'.block w.heap.size (by simp) (.inr hL)).trans HT.out)
  have B1 := Lib.hid ((Btw.alloc (B := C) (L := L) w _).trans b1')
  have tl : w.heap.size < w1.heap.size := (Array.getElem?_eq_some_iff.1 T1.out).1
  obtain ⟨t0, t1⟩ := TabAt.cells (show TabAt w1 w.heap.size (some ⟨b1, 0, none⟩) n n (some ⟨b2, 0, none⟩) m m from T1.out)
  clear kp b1' E1 HT PM
  go_wp2_with fail
  refine (E2.out _ _ k0 k1 PM1.out).mono ?_
  rintro e w2 ⟨rfl, o2⟩
  have P := Lib.hid (B1.out.only o2 l1 l2)
  have hq : (0 : Int) ≤ k + 3 * (m : Int) := by omega
  clear o2 PM1 T1 B1 E2 t0 t1
  generalize k + 3 * (m : Int) = q at *
  go_wp2
  go_ret
  exact ⟨_, hq, rfl, P.out⟩

end Go.Proofs.YtdndhhkpbcpalaaDoor
