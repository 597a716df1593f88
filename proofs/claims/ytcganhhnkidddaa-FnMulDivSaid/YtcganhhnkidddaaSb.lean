/-
  SUMS OF LISTS: both sides come to one fold.
-/
import Derived.Test.YtcganhhnkidddaaSa
namespace Go.Proofs.Ytcganhhnkidddaa
open Go.RowKit
set_option linter.unusedVariables false

/-- A MoneyOut in a block of its own. -/
def MAt (w : World) (b : Nat) (v c : Int) : Prop := w.heap[b]? = some (.cells #[.int .i64 v, .int .i64 c] 26)
theorem MAt.cells {w : World} {b : Nat} {v c : Int} (h : MAt w b v c) : w.cell? ⟨b, 0, none⟩ = some (.int .i64 v) ∧ w.cell? ⟨b, 1, none⟩ = some (.int .i64 c) ∧ ∀ o, w.frozen? ⟨b, o, none⟩ = false := by
  unfold MAt at h
  refine ⟨?_, ?_, fun o => ?_⟩ <;> simp [World.cell?, World.frozen?, h]
theorem MAt.lt {w : World} {b : Nat} {v c : Int} (h : MAt w b v c) : b < w.heap.size := (Array.getElem?_eq_some_iff.1 h).1
theorem MAt.below {w w' : World} {b : Nat} {v c : Int} (h : MAt w b v c) (hb : Below w.heap.size w w') : MAt w' b v c := (hb.block b h.lt).trans h
theorem MAt.new (w : World) (v c : Int) : MAt (w.alloc (.cells #[.int .i64 v, .int .i64 c] 26)) w.heap.size v c := by
  show (w.heap.push _)[w.heap.size]? = _
  simp
theorem MAt.set {w : World} {b : Nat} {v c : Int} (h : MAt w b v c) (v' c' : Int) : MAt ((w.setCell ⟨b, 0, none⟩ (.int .i64 v')).setCell ⟨b, 1, none⟩ (.int .i64 c')) b v' c' :=
  heap_setCell_same _ b 1 _ 26 _ (heap_setCell_same w b 0 _ 26 _ h)
theorem MAt.set_other {w : World} {b d : Nat} {v c : Int} (h : MAt w d v c) (hd : d ≠ b) (x y : Value) : MAt ((w.setCell ⟨b, 0, none⟩ x).setCell ⟨b, 1, none⟩ y) d v c := by
  unfold MAt
  rw [Below.heap_setCell _ _ _ _ hd, Below.heap_setCell _ _ _ _ hd]
  exact h

def sumF : Int → List Int → Int × Int
  | s, [] => (s, 0)
  | s, z :: r => if isM (s + z) then sumF (s + z) r else (0, 4)
def sumOf (zs : List Int) : Int × Int := if 400 < zs.length then (0, 2) else if zs.all isM then sumF 0 zs else (0, 1)

theorem drop_getD (zs : List Int) (k : Nat) (h : k < zs.length) : zs.drop k = zs.getD k 0 :: zs.drop (k + 1) := by
  rw [List.drop_eq_getElem_cons h]; simp [h]
theorem all_getD (p : Int → Bool) (zs : List Int) (k : Nat) (h : k < zs.length) (ha : zs.all p = true) : p (zs.getD k 0) = true := by
  rw [List.all_eq_true] at ha
  have := ha zs[k] (List.getElem_mem h)
  simpa [h] using this

set_option maxHeartbeats 400000 in
theorem isum_long (sl : Option Addr) (n cap : Nat) (w : World) (hn : 400 < n) :
    Calls Try.prog 25 #[.slice sl n cap] w fun e w' => e = .returned (M 0 2) ∧ Below w.heap.size w w' := by
  have h : (400 : Int) < (n : Int) := by omega
  go_enter Try.func25, Try.ntmps25
  go_wp2
  refine bodyPost_ret (v := M 0 2) (by simp [results, Try.results25, go_sem]) rfl ⟨rfl, ?_⟩
  exact bA0 _ _

set_option maxHeartbeats 400000 in
theorem isum_form (sl : Option Addr) (cap : Nat) (zs : List Int) (w : World) (hn : zs.length ≤ 400) (hz : Ints w sl zs) (ha : zs.all isM = false) :
    Calls Try.prog 25 #[.slice sl zs.length cap] w fun e w' => e = .returned (M 0 1) ∧ Below w.heap.size w w' := by
  have h : ¬ (400 : Int) < (zs.length : Int) := by omega
  have HA : Hid (∀ w1, Below w.heap.size w w1 → Calls Try.prog 48 #[.slice sl zs.length cap] w1 fun e w' => e = .returned (.bool false) ∧ Below w1.heap.size w1 w') := by
    intro w1 hb
    have := allMoney_any sl cap zs w1 (by unfold maxLen; omega) (hz.below hb)
    rw [ha] at this
    exact this
  clear hz ha
  generalize zs.length = n at *
  go_enter Try.func25, Try.ntmps25
  go_wp2_with fail
  refine (HA.out _ (bA0 _ _)).mono ?_
  rintro e w1 ⟨rfl, hb⟩
  obtain ⟨hc, hf⟩ := bcell hb; have hz := bZ hb
  go_wp2
  refine bodyPost_ret (v := M 0 1) (by simp [results, Try.results25, go_sem, hc]) rfl ⟨rfl, ?_⟩
  exact ((bT (bA0 _ _) hb).setCell (Nat.le_refl _) _).setCell (Nat.le_refl _) _

set_option maxHeartbeats 400000 in
theorem isum_nil (sl : Option Addr) (cap : Nat) (w : World) :
    Calls Try.prog 25 #[.slice sl 0 cap] w fun e w' => e = .returned (M 0 0) ∧ Below w.heap.size w w' := by
  go_enter Try.func25, Try.ntmps25
  go_wp2_with fail
  refine (allMoney_nil sl cap _).mono ?_
  rintro e w1 ⟨rfl, hb⟩
  obtain ⟨hc, hf⟩ := bcell hb; have hz := bZ hb
  go_wp2
  refine wp_loop_rounds 1 ?_
  rw [rounds_succ]
  go_wp2
  obtain ⟨k0, k1, _⟩ := ((((MAt.new w 0 0).below hb).set 0 0).below (bA0 _ (.cells #[.int .i64 0, .int .i64 0] 26))).cells
  refine bodyPost_ret (v := M 0 0) (by simp [results, Try.results25, go_sem, k0, k1]) rfl ⟨rfl, ?_⟩
  exact bA (((bT (bA0 _ _) hb).setCell (Nat.le_refl _) _).setCell (Nat.le_refl _) _) _

set_option maxHeartbeats 1000000 in
theorem isum_some (c o cap : Nat) (zs : List Int) (w : World) (hn : zs.length ≤ 400) (hz : IntsAt w c o zs) (ha : zs.all isM = true) :
    Calls Try.prog 25 #[.slice (some ⟨c, o, none⟩) zs.length cap] w fun e w' => e = .returned (M (sumF 0 zs).1 (sumF 0 zs).2) ∧ Below w.heap.size w w' := by
  have h : ¬ (400 : Int) < (zs.length : Int) := by omega
  have HA : Hid (∀ w1, Below w.heap.size w w1 → Calls Try.prog 48 #[.slice (some ⟨c, o, none⟩) zs.length cap] w1 fun e w' => e = .returned (.bool true) ∧ Below w1.heap.size w1 w') := by
    intro w1 hb
    have := allMoney_some c o cap zs w1 (by unfold maxLen; omega) (hz.below hb)
    rw [ha] at this
    exact this
  have HZ : Hid (IntsAt w c o zs) := hz
  have HM : Hid (zs.all isM = true) := ha
  clear hz ha
  generalize hN : zs.length = n at *
  have HN : Hid (zs.length = n) := hN
  clear hN
  go_enter Try.func25, Try.ntmps25
  go_wp2_with fail
  refine (HA.out _ (bA0 _ _)).mono ?_
  rintro e w1 ⟨rfl, hb⟩
  have hz := bZ hb
  go_wp2
  go_loopw [17] (fun i wr => ∃ (k : Nat) (s : Int), i = .int .i64 k ∧ k ≤ n ∧ Hid (isM s = true) ∧ Hid (sumF 0 zs = sumF s (zs.drop k)) ∧ Hid (Below w.heap.size w wr) ∧ Hid (MAt wr w.heap.size 0 0) ∧ Hid (MAt wr w1.heap.size s 0)) (fun i _ => n - (intOf i).toNat)
  case atStart =>
    exact ⟨0, 0, rfl, Nat.zero_le _, rfl, rfl, bA (bT (bA0 _ _) hb) _, ((MAt.new w 0 0).below hb).below (bA0 _ _), MAt.new w1 0 0⟩
  case round =>
    obtain ⟨k, s, rfl, hk, H1, H2, H3, H4, H5⟩ := hrel
    have hk0 : (0 : Int) ≤ (k : Int) := by omega
    obtain ⟨c0, c1, cf⟩ := H4.out.cells
    obtain ⟨d0, d1, df⟩ := H5.out.cells
    by_cases h1 : k < n
    · have h1' : (k : Int) < (n : Int) := by omega
      have hc : wr.cell? ⟨c, o + k, none⟩ = some (.int .i64 (zs.getD k 0)) := by
        rw [H3.out.cell HZ.out.1]; exact HZ.out.2 k (by rw [HN.out]; exact h1)
      have hlt : k < zs.length := by rw [HN.out]; exact h1
      have hm : isM (zs.getD k 0) = true := all_getD isM zs k hlt HM.out
      have E : Hid (sumF 0 zs = if isM (s + zs.getD k 0) then sumF (s + zs.getD k 0) (zs.drop (k + 1)) else (0, 4)) := by
        show sumF 0 zs = _
        rw [H2.out, drop_getD zs k hlt]; rfl
      generalize zs.getD k 0 = z at *
      clear hlt
      cases hs : isM (s + z)
      · have E2 : Hid (sumF 0 zs = (0, 4)) := by show sumF 0 zs = _; rw [E.out, hs]; rfl
        have K : Hid (∀ w, Calls Try.prog 14 #[.int .i64 s, .int .i64 z] w fun e w' => e = .returned (M 0 4) ∧ Below w.heap.size w w') := by
          intro w; have := add_any s z w
          rw [show twoV s z (s + z) = 0 by simp [twoV, H1.out, hm, toldV, hs], show twoC s z (s + z) = 4 by simp [twoC, H1.out, hm, toldC, hs]] at this
          exact this
        clear E hs hm
        go_wp2_with fail
        refine (K.out _).mono ?_
        rintro e w2 ⟨rfl, hb2⟩
        have N4 := H4.out.below hb2
        have N5 := H5.out.below hb2
        have P5 := N5.set 0 4
        have P4 := N4.set_other (b := w1.heap.size) (by omega) (.int .i64 0) (.int .i64 4)
        have Q4 := P4.set 0 4
        obtain ⟨c0, c1, cf⟩ := P4.cells
        obtain ⟨d0, d1, df⟩ := P5.cells
        obtain ⟨n0, n1, nf⟩ := N5.cells
        obtain ⟨q0, q1, qf⟩ := Q4.cells
        have HB : Hid (Below w.heap.size w w2) := bT H3.out hb2
        clear N4 N5 P4 P5 Q4 hb2 hc
        go_wp2
        refine bodyPost_ret (v := M 0 4) (by simp [results, Try.results25, go_sem, q0, q1]) rfl ⟨by rw [E2.out], ?_⟩
        exact (((HB.out.setCell (Nat.le_of_lt hz) _).setCell (Nat.le_of_lt hz) _).setCell (Nat.le_refl _) _).setCell (Nat.le_refl _) _
      · have E2 : Hid (sumF 0 zs = sumF (s + z) (zs.drop (k + 1))) := by show sumF 0 zs = _; rw [E.out, hs]; rfl
        have K : Hid (∀ w, Calls Try.prog 14 #[.int .i64 s, .int .i64 z] w fun e w' => e = .returned (M (s + z) 0) ∧ Below w.heap.size w w') := by
          intro w; have := add_any s z w
          rw [show twoV s z (s + z) = s + z by simp [twoV, H1.out, hm, toldV, hs], show twoC s z (s + z) = 0 by simp [twoC, H1.out, hm, toldC, hs]] at this
          exact this
        have HS : Hid (isM (s + z) = true) := hs
        clear E hs hm
        generalize s + z = t at *
        go_wp2_with fail
        refine (K.out _).mono ?_
        rintro e w2 ⟨rfl, hb2⟩
        have N4 := H4.out.below hb2
        have N5 := H5.out.below hb2
        have P5 := N5.set t 0
        have P4 := N4.set_other (b := w1.heap.size) (by omega) (.int .i64 t) (.int .i64 0)
        obtain ⟨d0, d1, df⟩ := P5.cells
        obtain ⟨n0, n1, nf⟩ := N5.cells
        have HB : Hid (Below w.heap.size w w2) := bT H3.out hb2
        have R4 : Hid (MAt ((w2.setCell ⟨w1.heap.size, 0, none⟩ (.int .i64 t)).setCell ⟨w1.heap.size, 1, none⟩ (.int .i64 0)) w.heap.size 0 0) := P4
        have R5 : Hid (MAt ((w2.setCell ⟨w1.heap.size, 0, none⟩ (.int .i64 t)).setCell ⟨w1.heap.size, 1, none⟩ (.int .i64 0)) w1.heap.size t 0) := P5
        clear N4 N5 P4 P5 hb2 hc
        go_wp2
        go_roundw
        case rel => exact ⟨k + 1, t, by go_num, by omega, HS, E2, (HB.out.setCell (Nat.le_of_lt hz) _).setCell (Nat.le_of_lt hz) _, R4, R5⟩
        case measure => simp [intOf]; omega
    · have h1' : ¬ (k : Int) < (n : Int) := by omega
      have E2 : Hid (sumF 0 zs = (s, 0)) := by
        show sumF 0 zs = _
        rw [H2.out, List.drop_of_length_le (by rw [HN.out]; omega)]; rfl
      obtain ⟨q0, q1, qf⟩ := (H4.out.set s 0).cells
      go_wp2
      refine bodyPost_ret (v := M s 0) (by simp [results, Try.results25, go_sem, q0, q1]) rfl ⟨by rw [E2.out], ?_⟩
      exact (H3.out.setCell (Nat.le_refl _) _).setCell (Nat.le_refl _) _

theorem isum_any (sl : Option Addr) (cap : Nat) (zs : List Int) (w : World) (hz : Ints w sl zs) :
    Calls Try.prog 25 #[.slice sl zs.length cap] w fun e w' => e = .returned (M (sumOf zs).1 (sumOf zs).2) ∧ Below w.heap.size w w' := by
  by_cases h : 400 < zs.length
  · have e : sumOf zs = (0, 2) := by simp [sumOf, h]
    rw [e]; exact isum_long sl _ cap w h
  · cases ha : zs.all isM
    · have e : sumOf zs = (0, 1) := by simp [sumOf, h, ha]
      rw [e]; exact isum_form sl cap zs w (by omega) hz ha
    · have e : sumOf zs = sumF 0 zs := by simp [sumOf, h, ha]
      rw [e]
      rcases hz with rfl | ⟨c, o, rfl, hz⟩
      · exact isum_nil sl cap w
      · exact isum_some c o cap zs w (by omega) hz ha

set_option maxHeartbeats 400000 in
theorem ssum_long (sl : Option Addr) (n cap : Nat) (w : World) (hn : 400 < n) :
    Calls Try.prog 29 #[.slice sl n cap] w fun e w' => e = .returned (M 0 2) ∧ Below w.heap.size w w' := by
  have h : (400 : Int) < (n : Int) := by omega
  go_enter Try.func29, Try.ntmps29
  go_wp2
  refine bodyPost_ret (v := M 0 2) (by simp [results, Try.results29, go_sem]) rfl ⟨rfl, ?_⟩
  exact bA0 _ _

set_option maxHeartbeats 400000 in
theorem ssum_form (sl : Option Addr) (cap : Nat) (zs : List Int) (w : World) (hn : zs.length ≤ 400) (hz : Ints w sl zs) (ha : zs.all isM = false) :
    Calls Try.prog 29 #[.slice sl zs.length cap] w fun e w' => e = .returned (M 0 1) ∧ Below w.heap.size w w' := by
  have h : ¬ (400 : Int) < (zs.length : Int) := by omega
  have HA : Hid (∀ w1, Below w.heap.size w w1 → Calls Try.prog 49 #[.slice sl zs.length cap, .int .i64 (-1000000000000), .int .i64 1000000000000] w1 fun e w' => e = .returned (.bool false) ∧ w' = w1) := by
    intro w1 hb
    have := l01All_any sl cap zs w1 (by unfold maxLen; omega) (hz.below hb)
    rw [ha] at this
    exact this
  clear hz ha
  generalize zs.length = n at *
  go_enter Try.func29, Try.ntmps29
  go_wp2_with fail
  refine (HA.out _ (bA0 _ _)).mono ?_
  rintro e w1 ⟨rfl, rfl⟩
  go_wp2
  refine bodyPost_ret (v := M 0 1) (by simp [results, Try.results29, go_sem]) rfl ⟨rfl, ?_⟩
  exact bA0 _ _

set_option maxHeartbeats 400000 in
theorem ssum_nil (sl : Option Addr) (cap : Nat) (w : World) :
    Calls Try.prog 29 #[.slice sl 0 cap] w fun e w' => e = .returned (M 0 0) ∧ Below w.heap.size w w' := by
  go_enter Try.func29, Try.ntmps29
  go_wp2_with fail
  refine (l01All_nil sl cap _ _ _).mono ?_
  rintro e w1 ⟨rfl, rfl⟩
  go_wp2
  refine wp_loop_rounds 1 ?_
  rw [rounds_succ]
  go_wp2
  refine bodyPost_ret (v := M 0 0) (by simp [results, Try.results29, go_sem]) rfl ⟨rfl, ?_⟩
  exact bA0 _ _

set_option maxHeartbeats 1000000 in
theorem ssum_some (c o cap : Nat) (zs : List Int) (w : World) (hn : zs.length ≤ 400) (hz : IntsAt w c o zs) (ha : zs.all isM = true) :
    Calls Try.prog 29 #[.slice (some ⟨c, o, none⟩) zs.length cap] w fun e w' => e = .returned (M (sumF 0 zs).1 (sumF 0 zs).2) ∧ Below w.heap.size w w' := by
  have h : ¬ (400 : Int) < (zs.length : Int) := by omega
  have HA : Hid (∀ w1, Below w.heap.size w w1 → Calls Try.prog 49 #[.slice (some ⟨c, o, none⟩) zs.length cap, .int .i64 (-1000000000000), .int .i64 1000000000000] w1 fun e w' => e = .returned (.bool true) ∧ w' = w1) := by
    intro w1 hb
    have := l01All_some c o cap zs w1 (by unfold maxLen; omega) (hz.below hb)
    rw [ha] at this
    exact this
  have HZ : Hid (IntsAt w c o zs) := hz
  have HM : Hid (zs.all isM = true) := ha
  clear hz ha
  generalize hN : zs.length = n at *
  have HN : Hid (zs.length = n) := hN
  clear hN
  go_enter Try.func29, Try.ntmps29
  go_wp2_with fail
  refine (HA.out _ (bA0 _ _)).mono ?_
  rintro e w1 ⟨rfl, rfl⟩
  go_wp2
  go_loopw [3, 4] (fun t i wr => ∃ (k : Nat) (s : Int), i = .int .i64 k ∧ t = .int .i64 s ∧ k ≤ n ∧ Hid (isM s = true) ∧ Hid (sumF 0 zs = sumF s (zs.drop k)) ∧ Hid (Below w.heap.size w wr) ∧ Hid (MAt wr w.heap.size 0 0)) (fun _ i _ => n - (intOf i).toNat)
  case atStart => exact ⟨0, 0, rfl, rfl, Nat.zero_le _, rfl, rfl, bA0 _ _, MAt.new w 0 0⟩
  case round =>
    obtain ⟨k, s, rfl, rfl, hk, H1, H2, H3, H4⟩ := hrel
    have hk0 : (0 : Int) ≤ (k : Int) := by omega
    obtain ⟨c0, c1, cf⟩ := H4.out.cells
    by_cases h1 : k < n
    · have h1' : (k : Int) < (n : Int) := by omega
      have hc : wr.cell? ⟨c, o + k, none⟩ = some (.int .i64 (zs.getD k 0)) := by
        rw [H3.out.cell HZ.out.1]; exact HZ.out.2 k (by rw [HN.out]; exact h1)
      have hlt : k < zs.length := by rw [HN.out]; exact h1
      have hm : isM (zs.getD k 0) = true := all_getD isM zs k hlt HM.out
      have E : Hid (sumF 0 zs = if isM (s + zs.getD k 0) then sumF (s + zs.getD k 0) (zs.drop (k + 1)) else (0, 4)) := by
        show sumF 0 zs = _
        rw [H2.out, drop_getD zs k hlt]; rfl
      generalize zs.getD k 0 = z at *
      clear hlt
      cases hs : isM (s + z)
      · have E2 : Hid (sumF 0 zs = (0, 4)) := by show sumF 0 zs = _; rw [E.out, hs]; rfl
        have K : Hid (∀ w, Calls Try.prog 13 #[.int .i64 s, .int .i64 z] w fun e w' => e = .returned (M 0 4) ∧ Below w.heap.size w w') := by
          intro w; have := sadd_any s z w
          rw [show twoV s z (s + z) = 0 by simp [twoV, H1.out, hm, toldV, hs], show twoC s z (s + z) = 4 by simp [twoC, H1.out, hm, toldC, hs]] at this
          exact this
        clear E hs hm
        go_wp2_with fail
        refine (K.out _).mono ?_
        rintro e w2 ⟨rfl, hb2⟩
        have N4 := (H4.out.below hb2).set 0 4
        have Q4 := N4.below (bA0 _ (.cells #[.int .i64 0, .int .i64 4] 26))
        obtain ⟨c0, c1, cf⟩ := (H4.out.below hb2).cells
        obtain ⟨q0, q1, qf⟩ := Q4.cells
        have HB : Hid (Below w.heap.size w w2) := bT H3.out hb2
        have hlt2 := (H4.out.below hb2).lt
        clear N4 Q4 hb2 hc
        go_wp2
        refine bodyPost_ret (v := M 0 4) (by simp [results, Try.results29, go_sem, q0, q1]) rfl ⟨by rw [E2.out], ?_⟩
        exact bA ((HB.out.setCell (Nat.le_refl _) _).setCell (Nat.le_refl _) _) _
      · have E2 : Hid (sumF 0 zs = sumF (s + z) (zs.drop (k + 1))) := by show sumF 0 zs = _; rw [E.out, hs]; rfl
        have K : Hid (∀ w, Calls Try.prog 13 #[.int .i64 s, .int .i64 z] w fun e w' => e = .returned (M (s + z) 0) ∧ Below w.heap.size w w') := by
          intro w; have := sadd_any s z w
          rw [show twoV s z (s + z) = s + z by simp [twoV, H1.out, hm, toldV, hs], show twoC s z (s + z) = 0 by simp [twoC, H1.out, hm, toldC, hs]] at this
          exact this
        have HS : Hid (isM (s + z) = true) := hs
        clear E hs hm
        generalize s + z = t at *
        go_wp2_with fail
        refine (K.out _).mono ?_
        rintro e w2 ⟨rfl, hb2⟩
        have R4 : Hid (MAt (w2.alloc (.cells #[.int .i64 t, .int .i64 0] 26)) w.heap.size 0 0) := (H4.out.below hb2).below (bA0 _ _)
        have HB : Hid (Below w.heap.size w (w2.alloc (.cells #[.int .i64 t, .int .i64 0] 26))) := bA (bT H3.out hb2) _
        clear hb2 hc
        go_wp2
        go_roundw
        case rel => exact ⟨k + 1, t, by go_num, rfl, by omega, HS, E2, HB, R4⟩
        case measure => simp [intOf]; omega
    · have h1' : ¬ (k : Int) < (n : Int) := by omega
      have E2 : Hid (sumF 0 zs = (s, 0)) := by
        show sumF 0 zs = _
        rw [H2.out, List.drop_of_length_le (by rw [HN.out]; omega)]; rfl
      obtain ⟨q0, q1, qf⟩ := (H4.out.set s 0).cells
      go_wp2
      refine bodyPost_ret (v := M s 0) (by simp [results, Try.results29, go_sem, q0, q1]) rfl ⟨by rw [E2.out], ?_⟩
      exact (H3.out.setCell (Nat.le_refl _) _).setCell (Nat.le_refl _) _

theorem ssum_any (sl : Option Addr) (cap : Nat) (zs : List Int) (w : World) (hz : Ints w sl zs) :
    Calls Try.prog 29 #[.slice sl zs.length cap] w fun e w' => e = .returned (M (sumOf zs).1 (sumOf zs).2) ∧ Below w.heap.size w w' := by
  by_cases h : 400 < zs.length
  · have e : sumOf zs = (0, 2) := by simp [sumOf, h]
    rw [e]; exact ssum_long sl _ cap w h
  · cases ha : zs.all isM
    · have e : sumOf zs = (0, 1) := by simp [sumOf, h, ha]
      rw [e]; exact ssum_form sl cap zs w (by omega) hz ha
    · have e : sumOf zs = sumF 0 zs := by simp [sumOf, h, ha]
      rw [e]
      rcases hz with rfl | ⟨c, o, rfl, hz⟩
      · exact ssum_nil sl cap w
      · exact ssum_some c o cap zs w (by omega) hz ha

end Go.Proofs.Ytcganhhnkidddaa
