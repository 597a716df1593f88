/-
  DRAWN TEXTS OF MONEY: each is some text, not long.
-/
import Derived.Test.YtcganhhnkidddaaDoorDc
import Derived.Test.YtcganhhnkidddaaDoorTb
import Derived.Laws.IdiomStrings
import Derived.Deep.RegionHeld3
import Derived.Lib.Hide
namespace Go.Proofs.YtcganhhnkidddaaDoor
open Go.RowKit
set_option linter.unusedVariables false

theorem Src.drewN {w : World} {b : Nat} (h : Src w b) (n : Nat) : Src (w.drewN n) b := h.other ⟨rfl, rfl, rfl, Nat.le_refl _, fun _ _ => rfl⟩
theorem one_size (x : UInt8) : (⟨#[x]⟩ : ByteArray).size = 1 := rfl
theorem one_conv (W : World) (x : UInt8) : Sem.run Tryd.prog (convert 22 9 (.slice (some ⟨W.heap.size, 0, none⟩) 1 1)) (W.alloc (.cells #[.int .u8 (x.toNat : Int)] 5)) = .ok (.string ⟨[x].toArray⟩) (W.alloc (.cells #[.int .u8 (x.toNat : Int)] 5)) := by
  refine run_convert_bytes_back (P := Tryd.prog) _ 22 9 5 ⟨W.heap.size, 0, none⟩ 1 [x] Tryd.underlying22 Tryd.underlying5 Tryd.underlying9 (fun j hj => ?_)
  have e : j = 0 := by simp at hj; omega
  subst e
  have hb : (W.alloc (.cells #[.int .u8 (x.toNat : Int)] 5)).heap[W.heap.size]? = some (.cells #[.int .u8 (x.toNat : Int)] 5 (0, 0)) := by show (W.heap.push _)[W.heap.size]? = _; simp
  have ha : (⟨W.heap.size, 0, none⟩ : Addr).add 0 = ⟨W.heap.size, 0, none⟩ := by simp [Addr.add]
  rw [ha]
  unfold World.cell?
  simp only [hb]
  rfl

set_option maxRecDepth 100000 in
set_option maxHeartbeats 1000000 in
theorem spoil_any (b : Nat) (t : ByteArray) (w : World) (ht : t.size ≤ 100000) (hs : Src w b) :
    Calls Tryd.prog 20 #[.pointer (some ⟨b, 0, none⟩), .string t] w fun e w' => ∃ u : ByteArray, e = .returned (.string u) ∧ u.size ≤ t.size + 1 ∧ Src w' b ∧ Only b w w' := by
  have HS : Hid (Src w b) := hs
  clear hs
  go_enter Tryd.func20, Tryd.ntmps20
  go_wp2_with fail
  refine (n_lt b ((t.size : Int) + 1) _ (by omega) (by omega) HS.out).mono ?_
  rintro e w1 ⟨r, rfl, r1, r2, s1, o1⟩
  have H1 : Hid (Src w1 b) := s1
  have O1 : Hid (Only b w w1) := o1
  clear s1 o1 HS
  obtain ⟨k, rfl⟩ := Int.eq_ofNat_of_zero_le r1
  go_wp2_with fail
  refine (n_lt b 17 _ (by omega) (by omega) H1.out).mono ?_
  rintro e w2 ⟨r, rfl, q1, q2, s2, o2⟩
  have H2 : Hid (Src w2 b) := s2
  have O2 : Hid (Only b w w2) := O1.out.trans o2
  clear s2 o2 H1 O1
  obtain ⟨j, rfl⟩ := Int.eq_ofNat_of_zero_le q1
  have hcv := one_conv w2
  have q2' : j < 17 := by omega
  have hkt : k ≤ t.size := by omega
  have hkt' : (k : Int) ≤ (t.size : Int) := by omega
  have htz : (t.size : Int) ≤ 100000 := by omega
  have ONE := Lib.hid (fun m w (hM : m ≤ 9223372036854775807) (hs : Src w b) => one_any b m w hM hs)
  have hA1 : (t.extract 0 k).size ≤ 100000 := by simp; omega
  have hA2 : (t.extract k t.size).size ≤ 100000 := by simp; omega
  have hA3 : (t.extract (k + 1) t.size).size ≤ 100000 := by simp; omega
  by_cases hk : k = t.size
  · have hk' : ((k : Int) == (t.size : Int)) = true := by simp [hk]
    go_wp2
    go_quiet (fail)
    go_wp2
    go_ret
    exact ⟨_, rfl, by simp only [ByteArray.size_append, one_size]; omega, (H2.out.other (bA0 _ _)).drewN _, (O2.out.trans (Only.of_below (bA0 _ _))).drewN _⟩
  · have hk' : ((k : Int) == (t.size : Int)) = false := by simp; omega
    have hk1 : (k : Int) + 1 ≤ (t.size : Int) := by omega
    go_wp2_with fail
    refine (ONE.out 3 _ (by decide) (H2.out.other (bA0 _ _))).mono ?_
    rintro e w3 ⟨tt, rfl, s3, o3⟩
    have H3 : Hid (Src w3 b) := s3
    have O3 : Hid (Only b w w3) := (O2.out.trans (Only.of_below (bA0 _ _))).trans o3
    clear s3 o3 H2 O2
    cases tt
    · go_wp2_with fail
      refine (ONE.out 2 _ (by decide) H3.out).mono ?_
      rintro e w4 ⟨tt, rfl, s4, o4⟩
      have H4 : Hid (Src w4 b) := s4
      have O4 : Hid (Only b w w4) := O3.out.trans o4
      clear s4 o4 H3 O3
      cases tt
      · go_wp2
        go_quiet (fail)
        go_wp2
        go_ret
        exact ⟨_, rfl, by simp only [ByteArray.size_append, one_size, ByteArray.size_extract]; omega, (H4.out).drewN _, (O4.out).drewN _⟩
      · go_wp2
        go_quiet (fail)
        go_wp2
        go_ret
        exact ⟨_, rfl, by simp only [ByteArray.size_append, ByteArray.size_extract]; omega, (H4.out).drewN _, (O4.out).drewN _⟩
    · go_wp2
      go_quiet (fail)
      go_wp2
      go_ret
      exact ⟨_, rfl, by simp only [ByteArray.size_append, one_size, ByteArray.size_extract]; omega, (H3.out).drewN _, (O3.out).drewN _⟩

def picks : List ByteArray := [⟨#[]⟩, ⟨#[48, 46, 48, 48]⟩, ⟨#[45, 48, 46, 48, 48]⟩, ⟨#[48, 48, 46, 49, 48]⟩, ⟨#[46, 49, 48]⟩, ⟨#[49, 46, 49]⟩, ⟨#[49, 48, 48, 48, 48, 48, 48, 48, 48, 48, 48, 46, 48, 48]⟩, ⟨#[49, 48, 48, 48, 48, 48, 48, 48, 48, 48, 48, 46, 48, 49]⟩, ⟨#[49, 44, 48, 48]⟩]
/-- A list of nine texts in a block of its own. -/
def PickAt (w : World) (c : Nat) : Prop := w.heap[c]? = some (.cells (picks.map Value.string).toArray 9)
set_option maxRecDepth 100000 in
set_option maxHeartbeats 1000000 in
theorem pick_any (b c : Nat) (w : World) (hs : Src w b) (hc : PickAt w c) (hbc : c ≠ b) :
    Calls Tryd.prog 21 #[.pointer (some ⟨b, 0, none⟩), .slice (some ⟨c, 0, none⟩) 9 9] w fun e w' => ∃ u : ByteArray, e = .returned (.string u) ∧ u.size ≤ 14 ∧ Src w' b ∧ Only b w w' := by
  have HS : Hid (Src w b) := hs
  have HC : Hid (PickAt w c) := hc
  clear hs hc
  go_enter Tryd.func21, Tryd.ntmps21
  go_wp2_with fail
  refine (n_lt b 9 _ (by omega) (by omega) HS.out).mono ?_
  rintro e w1 ⟨r, rfl, r1, r2, s1, o1⟩
  have H1 : Hid (Src w1 b ∧ Only b w w1) := ⟨s1, o1⟩
  obtain ⟨j, rfl⟩ := Int.eq_ofNat_of_zero_le r1
  have hj : j < picks.length := by show j < 9; omega
  have hcl : c < w.heap.size := (Array.getElem?_eq_some_iff.1 HC.out).1
  have hcell : w1.cell? ⟨c, j, none⟩ = some (.string (picks[j]'hj)) := by
    rw [o1.cell hcl hbc]
    have h := HC.out
    unfold PickAt at h
    simp only [World.cell?, h]
    simp [hj]
  have hsz : Hid ((picks[j]'hj).size ≤ 14) := by
    have : ∀ x ∈ picks, x.size ≤ 14 := by decide
    exact this _ (List.getElem_mem hj)
  clear s1 o1 HS HC
  generalize picks[j]'hj = u at *
  go_wp2
  go_ret
  exact ⟨_, rfl, hsz.out, H1.out⟩

end Go.Proofs.YtcganhhnkidddaaDoor
