/-
  RECORDS: when one is right, on both sides.
-/
import Derived.Test.YtnkdkbchendpmaaAa
import Derived.Deep.RegionHeld3
namespace Go.Proofs.Ytnkdkbchendpmaa
open Go.RowKit
set_option linter.unusedVariables false

/-- A right record: its kind and its numbers. -/
def recR (k : Int) (zs : List Int) : Bool := decide (1 ≤ k ∧ k ≤ 100) && (decide (zs.length ≤ 60) && zs.all isN)
theorem recR_k {k : Int} {zs : List Int} (h : ¬ (1 ≤ k ∧ k ≤ 100)) : recR k zs = false := by simp [recR, h]
theorem recR_n {k : Int} {zs : List Int} (h : 60 < zs.length) : recR k zs = false := by
  have : ¬ zs.length ≤ 60 := by omega
  simp [recR, this]
theorem recR_a {k : Int} {zs : List Int} (h : 1 ≤ k ∧ k ≤ 100) (hn : zs.length ≤ 60) : recR k zs = zs.all isN := by simp [recR, h, hn]

abbrev RV (k : Int) (sl : Option Addr) (n cap : Nat) : Value := .agg #[.int .i64 k, .slice sl n cap]

set_option maxHeartbeats 1000000 in
theorem srr_any (k : Int) (sl : Option Addr) (cap : Nat) (zs : List Int) (w : World) (hn : zs.length ≤ maxLen) (hz : Ints w sl zs) :
    Calls Try.prog 5 #[RV k sl zs.length cap] w fun e w' => e = .returned (.bool (recR k zs)) ∧ Below w.heap.size w w' := by
  by_cases h1 : 1 ≤ k
  · by_cases h2 : k ≤ 100
    · by_cases h3 : zs.length ≤ 60
      · have HA : Hid (∀ w1, Below w.heap.size w w1 → Calls Try.prog 10 #[.slice sl zs.length cap, .int .i64 (-9007199254740992), .int .i64 9007199254740992] w1 fun e w' => e = .returned (.bool (zs.all isN)) ∧ w' = w1) := fun w1 hb => l01All_any sl cap zs w1 hn (hz.below hb)
        rw [recR_a ⟨h1, h2⟩ h3]
        have h3' : (zs.length : Int) ≤ 60 := by omega
        clear hz hn
        generalize zs.length = n at *
        generalize zs.all isN = b at *
        go_enter Try.func5, Try.ntmps5
        go_wp2_with fail
        refine (HA.out _ (bA0 _ _)).mono ?_
        rintro e w1 ⟨rfl, rfl⟩
        go_wp2
        go_ret
        exact ⟨rfl, bA0 _ _⟩
      · rw [recR_n (by omega)]
        have h3' : decide ((zs.length : Int) ≤ 60) = false := by simp; omega
        clear hz hn
        generalize zs.length = n at *
        go_enter Try.func5, Try.ntmps5
        go_wp2
        go_ret
        exact ⟨rfl, bA0 _ _⟩
    · rw [recR_k (by omega)]
      have h2' : decide (k ≤ 100) = false := by simp; omega
      clear hz hn
      generalize zs.length = n at *
      go_enter Try.func5, Try.ntmps5
      go_wp2
      go_ret
      exact ⟨rfl, bA0 _ _⟩
  · rw [recR_k (by omega)]
    have h2' : decide (1 ≤ k) = false := by simp; omega
    clear hz hn
    generalize zs.length = n at *
    go_enter Try.func5, Try.ntmps5
    go_wp2
    go_ret
    exact ⟨rfl, bA0 _ _⟩

set_option maxHeartbeats 1000000 in
theorem irr_bad (k : Int) (sl : Option Addr) (n cap : Nat) (w : World) (h : ¬ (1 ≤ k ∧ k ≤ 100) ∨ 60 < n) :
    Calls Try.prog 7 #[RV k sl n cap] w fun e w' => e = .returned (.bool false) ∧ Below w.heap.size w w' := by
  by_cases h1 : k < 1
  · clear h
    go_enter Try.func7, Try.ntmps7
    go_wp2
    go_ret
    exact ⟨rfl, bA0 _ _⟩
  · have h1' : decide (k < 1) = false := by simp; omega
    by_cases h2 : 100 < k
    · clear h
      go_enter Try.func7, Try.ntmps7
      go_wp2
      go_ret
      exact ⟨rfl, bA0 _ _⟩
    · have h2' : decide (100 < k) = false := by simp; omega
      have h3 : (60 : Int) < (n : Int) := by omega
      clear h
      go_enter Try.func7, Try.ntmps7
      go_wp2
      go_ret
      exact ⟨rfl, bA0 _ _⟩

set_option maxHeartbeats 1000000 in
theorem irr_some (k : Int) (c o cap : Nat) (zs : List Int) (w : World) (h1 : 1 ≤ k) (h2 : k ≤ 100) (hn : zs.length ≤ 60) (hz : IntsAt w c o zs) :
    Calls Try.prog 7 #[RV k (some ⟨c, o, none⟩) zs.length cap] w fun e w' => e = .returned (.bool (zs.all isN)) ∧ Below w.heap.size w w' := by
  have h1' : decide (k < 1) = false := by simp; omega
  have h2' : decide (100 < k) = false := by simp; omega
  have h3' : decide ((60 : Int) < (zs.length : Int)) = false := by simp; omega
  have HZ : Hid (IntsAt w c o zs) := hz
  clear hz
  generalize hN : zs.length = n at *
  have HN : Hid (zs.length = n) := hN
  clear hN
  go_enter Try.func7, Try.ntmps7
  go_wp2_with fail
  go_loopw [22] (fun i wr => ∃ k : Nat, i = .int .i64 k ∧ k ≤ n ∧ Hid ((zs.take k).all isN = true) ∧ Hid (Below w.heap.size w wr)) (fun i _ => n - (intOf i).toNat)
  case atStart => exact ⟨0, rfl, Nat.zero_le _, (by show (zs.take 0).all isN = true; simp), bA0 _ _⟩
  case round =>
    obtain ⟨j, rfl, hk, H1, H2⟩ := hrel
    have hk0 : (0 : Int) ≤ (j : Int) := by omega
    by_cases h1 : j < n
    · have h1' : (j : Int) < (n : Int) := by omega
      have hc : wr.cell? ⟨c, o + j, none⟩ = some (.int .i64 (zs.getD j 0)) := by
        rw [H2.out.cell HZ.out.1]; exact HZ.out.2 j (by rw [HN.out]; exact h1)
      by_cases a1 : zs.getD j 0 < -9007199254740992
      · have HF : Hid (zs.all isN = false) := all_no isN zs j (by rw [HN.out]; exact h1) (by simp only [isN, decide_eq_false_iff_not]; omega)
        generalize zs.getD j 0 = z at *
        go_wp2
        go_ret
        exact ⟨by rw [HF.out]; rfl, H2.out⟩
      · by_cases a2 : 9007199254740992 < zs.getD j 0
        · have HF : Hid (zs.all isN = false) := all_no isN zs j (by rw [HN.out]; exact h1) (by simp only [isN, decide_eq_false_iff_not]; omega)
          generalize zs.getD j 0 = z at *
          go_wp2
          go_ret
          exact ⟨by rw [HF.out]; rfl, H2.out⟩
        · have HS : Hid ((zs.take (j + 1)).all isN = true) := (all_step isN zs j (by rw [HN.out]; exact h1) H1.out).trans (by simp only [isN, decide_eq_true_eq]; omega)
          generalize zs.getD j 0 = z at *
          go_wp2
          go_roundw
          case rel => exact ⟨j + 1, by go_num, by omega, HS, H2⟩
          case measure => simp [intOf]; omega
    · have h1' : ¬ (j : Int) < (n : Int) := by omega
      have HE : Hid (zs.all isN = true) := all_end isN zs j (by rw [HN.out]; omega) H1.out
      go_wp2
      go_ret
      exact ⟨by rw [HE.out]; rfl, H2.out⟩

set_option maxHeartbeats 1000000 in
theorem irr_nil (k : Int) (sl : Option Addr) (cap : Nat) (w : World) (h1 : 1 ≤ k) (h2 : k ≤ 100) :
    Calls Try.prog 7 #[RV k sl 0 cap] w fun e w' => e = .returned (.bool true) ∧ Below w.heap.size w w' := by
  have h1' : decide (k < 1) = false := by simp; omega
  have h2' : decide (100 < k) = false := by simp; omega
  go_enter Try.func7, Try.ntmps7
  go_wp2
  refine wp_loop_rounds 1 ?_
  rw [rounds_succ]
  go_wp2
  go_ret
  exact ⟨rfl, bA0 _ _⟩

theorem irr_any (k : Int) (sl : Option Addr) (cap : Nat) (zs : List Int) (w : World) (hz : Ints w sl zs) :
    Calls Try.prog 7 #[RV k sl zs.length cap] w fun e w' => e = .returned (.bool (recR k zs)) ∧ Below w.heap.size w w' := by
  by_cases h : 1 ≤ k ∧ k ≤ 100
  · by_cases hn : zs.length ≤ 60
    · rw [recR_a h hn]
      rcases hz with rfl | ⟨c, o, rfl, hz⟩
      · exact irr_nil k sl cap w h.1 h.2
      · exact irr_some k c o cap zs w h.1 h.2 hn hz
    · rw [recR_n (by omega)]
      exact irr_bad k sl _ cap w (.inr (by omega))
  · rw [recR_k h]
    exact irr_bad k sl _ cap w (.inl h)

theorem szI_any (sl : Option Addr) (n cap : Nat) (m : Int) (w : World) (hn : n ≤ maxLen) (h0 : 0 ≤ m) (h1 : m ≤ 1048576) :
    Calls Try.prog 9 #[.slice sl n cap, .int .i64 m] w fun e w' => e = .returned (.int .i64 (if m - n < 0 then -1 else m - n)) ∧ Below w.heap.size w w' := by
  unfold maxLen at hn
  by_cases h : m - n < 0
  · rw [if_pos h]
    go_enter Try.func9, Try.ntmps9
    go_wp2
    go_ret
    exact ⟨rfl, Below.refl _ _⟩
  · rw [if_neg h]
    go_enter Try.func9, Try.ntmps9
    go_wp2
    go_ret
    exact ⟨rfl, Below.refl _ _⟩

theorem szR_any (k : Int) (sl : Option Addr) (n cap : Nat) (m : Int) (w : World) (hn : n ≤ maxLen) (h0 : 0 ≤ m) (h1 : m ≤ 1048576) :
    Calls Try.prog 4 #[RV k sl n cap, .int .i64 m] w fun e w' => e = .returned (.int .i64 (if m - n < 0 then -1 else m - n)) ∧ Below w.heap.size w w' := by
  have H : Hid (∀ w, Calls Try.prog 9 #[.slice sl n cap, .int .i64 m] w fun e w' => e = .returned (.int .i64 (if m - n < 0 then -1 else m - n)) ∧ Below w.heap.size w w') := fun w => szI_any sl n cap m w hn h0 h1
  by_cases h : m - n < 0
  · rw [if_pos h] at H ⊢
    go_enter Try.func4, Try.ntmps4
    go_wp2_with fail
    refine (H.out _).mono ?_
    rintro e w1 ⟨rfl, hb⟩
    go_wp2
    go_ret
    exact ⟨rfl, bT (bA0 _ _) hb⟩
  · rw [if_neg h] at H ⊢
    have h' : ¬ (m - (n : Int) < 0) := h
    go_enter Try.func4, Try.ntmps4
    go_wp2_with fail
    refine (H.out _).mono ?_
    rintro e w1 ⟨rfl, hb⟩
    go_wp2
    go_ret
    exact ⟨rfl, bT (bA0 _ _) hb⟩

theorem IntsAt.set {w : World} {c o : Nat} {zs : List Int} (h : IntsAt w c o zs) {b : Nat} (hb : c ≠ b) (i : Nat) (v : Value) : IntsAt (w.setCell ⟨b, i, none⟩ v) c o zs := by
  refine ⟨by simpa [World.setCell] using h.1, fun j hj => ?_⟩
  rw [← h.2 j hj]
  simp only [World.cell?]
  rw [Below.heap_setCell _ _ _ _ hb]
theorem Ints.set {w : World} {c o : Nat} {zs : List Int} (h : Ints w (some ⟨c, o, none⟩) zs) {b : Nat} (hb : c ≠ b) (i : Nat) (v : Value) : Ints (w.setCell ⟨b, i, none⟩ v) (some ⟨c, o, none⟩) zs := by
  rcases h with h | ⟨c', o', e, h⟩
  · exact .inl h
  · cases e; exact .inr ⟨_, _, rfl, h.set hb i v⟩

set_option maxHeartbeats 1000000 in
theorem toR_any (k : Int) (sl : Option Addr) (cap : Nat) (zs : List Int) (w : World) (hn : zs.length ≤ 1048576) (hz : Ints w sl zs) :
    Calls Try.prog 6 #[RV k sl zs.length cap] w fun e w' => e = .returned (RV k (some ⟨w.heap.size + 3, 0, none⟩) zs.length zs.length) ∧ Ints w' (some ⟨w.heap.size + 3, 0, none⟩) zs ∧ Below w.heap.size w w' := by
  have T : Hid (∀ w1, Below w.heap.size w w1 → Calls Try.prog 11 #[.slice sl zs.length cap] w1 fun e w' => e = .returned (.slice (some ⟨w1.heap.size, 0, none⟩) zs.length zs.length) ∧ Ints w' (some ⟨w1.heap.size, 0, none⟩) zs ∧ Below w1.heap.size w1 w') :=
    fun w1 hb => to_any sl cap zs w1 hn (hz.below hb)
  clear hz
  generalize zs.length = n at *
  go_enter Try.func6, Try.ntmps6
  go_wp2_with fail
  refine (T.out _ (bA (bA (bA0 _ _) _) _)).mono ?_
  rintro e w1 ⟨rfl, hi, hb⟩
  obtain ⟨hc, hf⟩ := bcell hb; have hz := hb.size; simp at hz hi
  have HI : Hid (Ints w1 (some ⟨w.heap.size + 1 + 1 + 1, 0, none⟩) zs) := hi
  clear hi
  go_wp2
  refine bodyPost_ret (v := RV k (some ⟨w.heap.size + 3, 0, none⟩) n n) (by simp [results, Try.results6, go_sem, hc]) rfl ⟨rfl, ?_, ?_⟩
  · exact (((HI.out.set (b := w.heap.size + 1 + 1) (by omega) _ _).set (b := w.heap.size + 1) (by omega) _ _).set (b := w.heap.size + 1) (by omega) _ _)
  · exact (((bT (bA (bA (bA0 _ _) _) _) hb).setCell (Nat.le_add_right _ 2) _).setCell (Nat.le_add_right _ 1) _).setCell (Nat.le_add_right _ 1) _

set_option maxHeartbeats 1000000 in
theorem eqR_any (k : Int) (sl sl2 : Option Addr) (cap cap2 : Nat) (zs : List Int) (w : World) (hn : zs.length ≤ maxLen) (hz : Ints w sl zs) (hz2 : Ints w sl2 zs) :
    Calls Try.prog 8 #[RV k sl zs.length cap, RV k sl2 zs.length cap2] w fun e w' => e = .returned (.bool true) ∧ Below w.heap.size w w' := by
  have E : Hid (∀ w1, Below w.heap.size w w1 → Calls Try.prog 12 #[.slice sl zs.length cap, .slice sl2 zs.length cap2] w1 fun e w' => e = .returned (.bool true) ∧ Below w1.heap.size w1 w') :=
    fun w1 hb => eq_any sl sl2 cap cap2 zs w1 hn (hz.below hb) (hz2.below hb)
  clear hz hz2
  generalize zs.length = n at *
  go_enter Try.func8, Try.ntmps8
  go_wp2_with fail
  refine (E.out _ (bA (bA0 _ _) _)).mono ?_
  rintro e w1 ⟨rfl, hb⟩
  go_wp2
  go_ret
  exact ⟨rfl, bT (bA (bA0 _ _) _) hb⟩

/-- A record in a block of its own. -/
def RAt (t : TypeId) (w : World) (b : Nat) (k : Int) (sl : Option Addr) (n cap : Nat) : Prop := w.heap[b]? = some (.cells #[.int .i64 k, .slice sl n cap] t)
theorem RAt.cells {t : TypeId} {w : World} {b : Nat} {k : Int} {sl : Option Addr} {n cap : Nat} (h : RAt t w b k sl n cap) : w.cell? ⟨b, 0, none⟩ = some (.int .i64 k) ∧ w.cell? ⟨b, 1, none⟩ = some (.slice sl n cap) := by
  unfold RAt at h
  refine ⟨?_, ?_⟩ <;> simp [World.cell?, h]
theorem RAt.lt {t : TypeId} {w : World} {b : Nat} {k : Int} {sl : Option Addr} {n cap : Nat} (h : RAt t w b k sl n cap) : b < w.heap.size := (Array.getElem?_eq_some_iff.1 h).1
theorem RAt.below {t : TypeId} {w w' : World} {b : Nat} {k : Int} {sl : Option Addr} {n cap : Nat} (h : RAt t w b k sl n cap) (hb : Below w.heap.size w w') : RAt t w' b k sl n cap := (hb.block b h.lt).trans h
theorem RAt.new (t : TypeId) (w : World) (k : Int) (sl : Option Addr) (n cap : Nat) : RAt t (w.alloc (.cells #[.int .i64 k, .slice sl n cap] t)) w.heap.size k sl n cap := by
  show (w.heap.push _)[w.heap.size]? = _
  simp

set_option maxHeartbeats 1000000 in
theorem law3 (k : Int) (sl : Option Addr) (cap : Nat) (zs : List Int) (w : World) (hz : Ints w sl zs) (hlen : zs.length ≤ 1048576) :
    Calls Try.prog 3 #[RV k sl zs.length cap] w fun e w' => e = .returned (.bool true) ∧ Below w.heap.size w w' := by
  have hl : ¬ (1048576 : Int) - (zs.length : Int) < 0 := by omega
  have HZ : Hid (Ints w sl zs) := hz
  have HL : Hid (zs.length ≤ 1048576) := hlen
  clear hz
  have SZ : Hid (∀ w, Calls Try.prog 4 #[RV k sl zs.length cap, .int .i64 1048576] w fun e w' => e = .returned (.int .i64 (1048576 - zs.length)) ∧ Below w.heap.size w w') := by
    intro w
    have := szR_any k sl zs.length cap 1048576 w (by unfold maxLen; omega) (by omega) (by omega)
    rwa [if_neg hl] at this
  have T : Hid (∀ w1, Below w.heap.size w w1 → Calls Try.prog 6 #[RV k sl zs.length cap] w1 fun e w' => e = .returned (RV k (some ⟨w1.heap.size + 3, 0, none⟩) zs.length zs.length) ∧ Ints w' (some ⟨w1.heap.size + 3, 0, none⟩) zs ∧ Below w1.heap.size w1 w') :=
    fun w1 hb => toR_any k sl cap zs w1 hlen (HZ.out.below hb)
  have S1 : Hid (∀ w1 a c, Ints w1 a zs → Calls Try.prog 5 #[RV k a zs.length c] w1 fun e w' => e = .returned (.bool (recR k zs)) ∧ Below w1.heap.size w1 w') := fun w1 a c h => srr_any k a c zs w1 (by unfold maxLen; omega) h
  have S2 : Hid (∀ w1 a c, Ints w1 a zs → Calls Try.prog 7 #[RV k a zs.length c] w1 fun e w' => e = .returned (.bool (recR k zs)) ∧ Below w1.heap.size w1 w') := fun w1 a c h => irr_any k a c zs w1 h
  have EQ : Hid (∀ w1 a c a2 c2, Ints w1 a zs → Ints w1 a2 zs → Calls Try.prog 8 #[RV k a zs.length c, RV k a2 zs.length c2] w1 fun e w' => e = .returned (.bool true) ∧ Below w1.heap.size w1 w') :=
    fun w1 a c a2 c2 h h2 => eqR_any k a a2 c c2 zs w1 (by unfold maxLen; omega) h h2
  generalize zs.length = n at *
  generalize recR k zs = r at *
  go_enter Try.func3, Try.ntmps3
  go_wp2_with fail
  refine (SZ.out _).mono ?_
  rintro e w0 ⟨rfl, b0⟩
  have B0 : Hid (Below w.heap.size w w0) := bT (bA0 _ _) b0
  have R0 : Hid (RAt 24 w0 w.heap.size k sl n cap) := (RAt.new 24 w k sl n cap).below b0
  obtain ⟨c0, c1⟩ := R0.out.cells
  clear b0
  go_wp2_with fail
  refine (T.out _ B0.out).mono ?_
  rintro e w1 ⟨rfl, i1, b1⟩
  have I1 : Hid (Ints w1 (some ⟨w0.heap.size + 3, 0, none⟩) zs) := i1
  have B1 : Hid (Below w.heap.size w w1) := bT B0.out b1
  have R1 : Hid (RAt 24 w1 w.heap.size k sl n cap) := R0.out.below b1
  clear i1 b1 B0 c0 c1 R0
  go_wp2_with fail
  refine (S1.out _ _ _ I1.out).mono ?_
  rintro e w2 ⟨rfl, b2⟩
  have B2 : Hid (Below w.heap.size w w2) := bT B1.out b2
  have R2 : Hid (RAt 24 w2 w.heap.size k sl n cap) := R1.out.below b2
  obtain ⟨c0, c1⟩ := R2.out.cells
  clear b2 I1 B1 R1
  go_wp2_with fail
  refine (T.out _ B2.out).mono ?_
  rintro e w3 ⟨rfl, i3, b3⟩
  generalize w2.heap.size + 3 = q at *
  have I3 : Hid (Ints (w3.alloc (.cells #[.int .i64 k, .slice (some ⟨q, 0, none⟩) n n] 27)) (some ⟨q, 0, none⟩) zs) := i3.below (bA0 _ _)
  have B3 : Hid (Below w.heap.size w (w3.alloc (.cells #[.int .i64 k, .slice (some ⟨q, 0, none⟩) n n] 27))) := bA (bT B2.out b3) _
  have R3 : Hid (RAt 24 (w3.alloc (.cells #[.int .i64 k, .slice (some ⟨q, 0, none⟩) n n] 27)) w.heap.size k sl n cap) := (R2.out.below b3).below (bA0 _ _)
  have X3 : Hid (RAt 27 (w3.alloc (.cells #[.int .i64 k, .slice (some ⟨q, 0, none⟩) n n] 27)) w3.heap.size k (some ⟨q, 0, none⟩) n n) := RAt.new 27 w3 k _ n n
  clear i3 b3 B2 c0 c1 R2
  go_wp2_with fail
  refine (S2.out _ _ _ I3.out).mono ?_
  rintro e w4 ⟨rfl, b4⟩
  have I4 : Hid (Ints w4 (some ⟨q, 0, none⟩) zs) := I3.out.below b4
  have B4 : Hid (Below w.heap.size w w4) := bT B3.out b4
  have R4 : Hid (RAt 24 w4 w.heap.size k sl n cap) := R3.out.below b4
  have X4 : Hid (RAt 27 w4 w3.heap.size k (some ⟨q, 0, none⟩) n n) := X3.out.below b4
  clear b4 I3 B3 R3 X3
  obtain ⟨c0, c1⟩ := R4.out.cells
  obtain ⟨d0, d1⟩ := X4.out.cells
  have hd := X4.out.lt
  have hc := R4.out.lt
  have I5 : Hid (Ints w4.drew (some ⟨q, 0, none⟩) zs) := I4.out
  generalize w3.heap.size = b3 at *
  generalize hb0 : w.heap.size = b0 at *
  go_wp2_with fail
  go_region_held3 (fun w' => b3 < w'.heap.size ∧ b0 < w'.heap.size ∧ w'.cell? ⟨b3, 0, none⟩ = some (.int .i64 k) ∧ w'.cell? ⟨b3, 1, none⟩ = some (.slice (some ⟨q, 0, none⟩) n n) ∧ w'.cell? ⟨b0, 0, none⟩ = some (.int .i64 k) ∧ w'.cell? ⟨b0, 1, none⟩ = some (.slice sl n cap))
    (first | exact ⟨hd, hc, d0, d1, c0, c1⟩ | exact ⟨Nat.lt_of_lt_of_le hd b5.size, Nat.lt_of_lt_of_le hc b5.size, (b5.cell hd).trans d0, (b5.cell hd).trans d1, (b5.cell hc).trans c0, (b5.cell hc).trans c1⟩ | exact ⟨Nat.lt_of_lt_of_le (Nat.lt_of_lt_of_le hd b5.size) b6.size, Nat.lt_of_lt_of_le (Nat.lt_of_lt_of_le hc b5.size) b6.size, (b6.cell (Nat.lt_of_lt_of_le hd b5.size)).trans ((b5.cell hd).trans d0), (b6.cell (Nat.lt_of_lt_of_le hd b5.size)).trans ((b5.cell hd).trans d1), (b6.cell (Nat.lt_of_lt_of_le hc b5.size)).trans ((b5.cell hc).trans c0), (b6.cell (Nat.lt_of_lt_of_le hc b5.size)).trans ((b5.cell hc).trans c1)⟩)
    (first | (go_at_call 6; refine (T.out _ (by first | exact B4.out | exact B4.out.drew | exact below_drewN B4.out _)).mono ?_; rintro e w5 ⟨rfl, i5, b5⟩) | (go_at_call 8; refine (EQ.out _ _ _ _ _ (I5.out.below b5) i5).mono ?_; rintro e w6 ⟨rfl, b6⟩))
  subst hb0
  have B6 : Hid (Below w.heap.size w w6) := bT (bT B4.out.drew b5) b6
  clear b5 b6 B4 i5
  go_wp2
  go_ret
  exact ⟨rfl, B6.out⟩

theorem law3_long (k : Int) (sl : Option Addr) (n cap : Nat) (w : World) (hm : n ≤ maxLen) (hlen : 1048576 < n) :
    Calls Try.prog 3 #[RV k sl n cap] w fun e w' => e = .returned (.bool true) ∧ Below w.heap.size w w' := by
  have hl : (1048576 : Int) - (n : Int) < 0 := by omega
  have SZ : Hid (∀ w, Calls Try.prog 4 #[RV k sl n cap, .int .i64 1048576] w fun e w' => e = .returned (.int .i64 (-1)) ∧ Below w.heap.size w w') := by
    intro w
    have := szR_any k sl n cap 1048576 w hm (by omega) (by omega)
    rwa [if_pos hl] at this
  go_enter Try.func3, Try.ntmps3
  go_wp2_with fail
  refine (SZ.out _).mono ?_
  rintro e w0 ⟨rfl, b0⟩
  go_wp2
  go_ret
  exact ⟨rfl, bT (bA0 _ _) b0⟩

theorem law3_all (k : Int) (sl : Option Addr) (len cap : Nat) (zs : List Int) (w : World) (hm : len ≤ maxLen) (hz : Ints w sl (zs.take len) ∧ (zs.take len).length = len) :
    Calls Try.prog 3 #[RV k sl len cap] w fun e w' => e = .returned (.bool true) ∧ Below w.heap.size w w' := by
  by_cases h : len ≤ 1048576
  · have := law3 k sl cap (zs.take len) w hz.1 (by rw [hz.2]; exact h)
    rwa [hz.2] at this
  · exact law3_long k sl len cap w hm (by omega)

theorem ints_in {w : World} {a : Option Addr} {len cap : Nat} {zs : List Int}
    (h : (a = none ∧ len = 0 ∧ cap = 0 ∧ zs = []) ∨ ∃ x, a = some x ∧ len ≤ cap ∧ cap ≤ maxLen ∧ zs.length = cap ∧ (∀ i, i < zs.length → w.cell? (x.add i) = some (.int .i64 (zs.getD i 0))) ∧ ∀ n ∈ zs, (Lit.int .i64 n).wf = true) :
    Ints w a (zs.take len) ∧ (zs.take len).length = len := by
  rcases h with ⟨rfl, rfl, rfl, rfl⟩ | ⟨x, rfl, hl, hm, hz, hc, hw⟩
  · exact ⟨.inl rfl, rfl⟩
  · have hlen : (zs.take len).length = len := by simp; omega
    refine ⟨?_, hlen⟩
    by_cases h0 : len = 0
    · subst h0; exact .inl (by simp)
    · obtain ⟨c, o, spot⟩ := x
      have h1 := hc 0 (by omega)
      have hs : spot = none := by simpa [Addr.add] using World.cell?_spot h1
      subst hs
      have ha : ∀ i, (⟨c, o, none⟩ : Addr).add i = ⟨c, o + i, none⟩ := by
        intro i
        unfold Addr.add
        by_cases h : i = 0 <;> simp [h]
      refine .inr ⟨c, o, rfl, ?_, fun i hi => ?_⟩
      · rw [ha] at h1
        unfold World.cell? at h1
        cases e : w.heap[c]? with
        | none => simp [e] at h1
        | some ob => exact (Array.getElem?_eq_some_iff.1 e).1
      · rw [hlen] at hi
        have h2 := hc i (by omega)
        rw [ha] at h2
        rw [h2]
        simp [hi]

end Go.Proofs.Ytnkdkbchendpmaa
