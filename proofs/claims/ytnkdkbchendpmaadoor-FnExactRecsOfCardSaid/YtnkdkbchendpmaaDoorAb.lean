/-
  RECORDS: when one is right, on both sides.
-/
import Derived.Test.YtnkdkbchendpmaaDoorAa
import Derived.Deep.RegionHeld3
namespace Go.Proofs.YtnkdkbchendpmaaDoor
open Go.RowKit
set_option linter.unusedVariables false

/-- A right record: its kind and its numbers. -/
def recR (k : Int) (zs : List Int) : Bool := decide (1 ≤ k ∧ k ≤ 100) && (decide (zs.length ≤ 60) && zs.all isN)
theorem recR_k {k : Int} {zs : List Int} (h : ¬ (1 ≤ k ∧ k ≤ 100)) : recR k zs = false := by simp [recR, h]
theorem recR_n {k : Int} {zs : List Int} (h : 60 < zs.length) : recR k zs = false := by
  have : ¬ zs.length ≤ 60 := by omega
  simp [recR, this]
theorem recR_a {k : Int} {zs : List Int} (h : 1 ≤ k ∧ k ≤ 100) (hn : zs.length ≤ 60) : recR k zs = zs.all isN := by simp [recR, h, hn]

abbrev RV (k : Int) (sl : Option Addr) (n cap : Nat) : Value := .agg #[.int .i64 k, .slice sl n cap]

set_option maxHeartbeats 1000000 in
theorem srr_any (k : Int) (sl : Option Addr) (cap : Nat) (zs : List Int) (w : World) (hn : zs.length ≤ maxLen) (hz : Ints w sl zs) :
    Calls Tryd.prog 33 #[RV k sl zs.length cap] w fun e w' => e = .returned (.bool (recR k zs)) ∧ Below w.heap.size w w' := by
  by_cases h1 : 1 ≤ k
  · by_cases h2 : k ≤ 100
    · by_cases h3 : zs.length ≤ 60
      · have HA : Hid (∀ w1, Below w.heap.size w w1 → Calls Tryd.prog 59 #[.slice sl zs.length cap, .int .i64 (-9007199254740992), .int .i64 9007199254740992] w1 fun e w' => e = .returned (.bool (zs.all isN)) ∧ w' = w1) := fun w1 hb => l01All_any sl cap zs w1 hn (hz.below hb)
        rw [recR_a ⟨h1, h2⟩ h3]
        have h3' : (zs.length : Int) ≤ 60 := by omega
        clear hz hn
        generalize zs.length = n at *
        generalize zs.all isN = b at *
        go_enter Tryd.func33, Tryd.ntmps33
        go_wp2_with fail
        refine (HA.out _ (bA0 _ _)).mono ?_
        rintro e w1 ⟨rfl, rfl⟩
        go_wp2
        go_ret
        exact ⟨rfl, bA0 _ _⟩
      · rw [recR_n (by omega)]
        have h3' : decide ((zs.length : Int) ≤ 60) = false := by simp; omega
        clear hz hn
        generalize zs.length = n at *
        go_enter Tryd.func33, Tryd.ntmps33
        go_wp2
        go_ret
        exact ⟨rfl, bA0 _ _⟩
    · rw [recR_k (by omega)]
      have h2' : decide (k ≤ 100) = false := by simp; omega
      clear hz hn
      generalize zs.length = n at *
      go_enter Tryd.func33, Tryd.ntmps33
      go_wp2
      go_ret
      exact ⟨rfl, bA0 _ _⟩
  · rw [recR_k (by omega)]
    have h2' : decide (1 ≤ k) = false := by simp; omega
    clear hz hn
    generalize zs.length = n at *
    go_enter Tryd.func33, Tryd.ntmps33
    go_wp2
    go_ret
    exact ⟨rfl, bA0 _ _⟩

set_option maxHeartbeats 1000000 in
theorem irr_bad (k : Int) (sl : Option Addr) (n cap : Nat) (w : World) (h : ¬ (1 ≤ k ∧ k ≤ 100) ∨ 60 < n) :
    Calls Tryd.prog 34 #[RV k sl n cap] w fun e w' => e = .returned (.bool false) ∧ Below w.heap.size w w' := by
  by_cases h1 : k < 1
  · clear h
    go_enter Tryd.func34, Tryd.ntmps34
    go_wp2
    go_ret
    exact ⟨rfl, bA0 _ _⟩
  · have h1' : decide (k < 1) = false := by simp; omega
    by_cases h2 : 100 < k
    · clear h
      go_enter Tryd.func34, Tryd.ntmps34
      go_wp2
      go_ret
      exact ⟨rfl, bA0 _ _⟩
    · have h2' : decide (100 < k) = false := by simp; omega
      have h3 : (60 : Int) < (n : Int) := by omega
      clear h
      go_enter Tryd.func34, Tryd.ntmps34
      go_wp2
      go_ret
      exact ⟨rfl, bA0 _ _⟩

set_option maxHeartbeats 1000000 in
theorem irr_some (k : Int) (c o cap : Nat) (zs : List Int) (w : World) (h1 : 1 ≤ k) (h2 : k ≤ 100) (hn : zs.length ≤ 60) (hz : IntsAt w c o zs) :
    Calls Tryd.prog 34 #[RV k (some ⟨c, o, none⟩) zs.length cap] w fun e w' => e = .returned (.bool (zs.all isN)) ∧ Below w.heap.size w w' := by
  have h1' : decide (k < 1) = false := by simp; omega
  have h2' : decide (100 < k) = false := by simp; omega
  have h3' : decide ((60 : Int) < (zs.length : Int)) = false := by simp; omega
  have HZ : Hid (IntsAt w c o zs) := hz
  clear hz
  generalize hN : zs.length = n at *
  have HN : Hid (zs.length = n) := hN
  clear hN
  go_enter Tryd.func34, Tryd.ntmps34
  go_wp2_with fail
  go_loopw [22] (fun i wr => ∃ k : Nat, i = .int .i64 k ∧ k ≤ n ∧ Hid ((zs.take k).all isN = true) ∧ Hid (Below w.heap.size w wr)) (fun i _ => n - (intOf i).toNat)
  case atStart => exact ⟨0, rfl, Nat.zero_le _, (by show (zs.take 0).all isN = true; simp), bA0 _ _⟩
  case round =>
    obtain ⟨j, rfl, hk, H1, H2⟩ := hrel
    have hk0 : (0 : Int) ≤ (j : Int) := by omega
    by_cases h1 : j < n
    · have h1' : (j : Int) < (n : Int) := by omega
      have hc : wr.cell? ⟨c, o + j, none⟩ = some (.int .i64 (zs.getD j 0)) := by
        rw [H2.out.cell HZ.out.1]; exact HZ.out.2 j (by rw [HN.out]; exact h1)
      by_cases a1 : zs.getD j 0 < -9007199254740992
      · have HF : Hid (zs.all isN = false) := all_no isN zs j (by rw [HN.out]; exact h1) (by simp only [isN, decide_eq_false_iff_not]; omega)
        generalize zs.getD j 0 = z at *
        go_wp2
        go_ret
        exact ⟨by rw [HF.out]; rfl, H2.out⟩
      · by_cases a2 : 9007199254740992 < zs.getD j 0
        · have HF : Hid (zs.all isN = false) := all_no isN zs j (by rw [HN.out]; exact h1) (by simp only [isN, decide_eq_false_iff_not]; omega)
          generalize zs.getD j 0 = z at *
          go_wp2
          go_ret
          exact ⟨by rw [HF.out]; rfl, H2.out⟩
        · have HS : Hid ((zs.take (j + 1)).all isN = true) := (all_step isN zs j (by rw [HN.out]; exact h1) H1.out).trans (by simp only [isN, decide_eq_true_eq]; omega)
          generalize zs.getD j 0 = z at *
          go_wp2
          go_roundw
          case rel => exact ⟨j + 1, by go_num, by omega, HS, H2⟩
          case measure => simp [intOf]; omega
    · have h1' : ¬ (j : Int) < (n : Int) := by omega
      have HE : Hid (zs.all isN = true) := all_end isN zs j (by rw [HN.out]; omega) H1.out
      go_wp2
      go_ret
      exact ⟨by rw [HE.out]; rfl, H2.out⟩

set_option maxHeartbeats 1000000 in
theorem irr_nil (k : Int) (sl : Option Addr) (cap : Nat) (w : World) (h1 : 1 ≤ k) (h2 : k ≤ 100) :
    Calls Tryd.prog 34 #[RV k sl 0 cap] w fun e w' => e = .returned (.bool true) ∧ Below w.heap.size w w' := by
  have h1' : decide (k < 1) = false := by simp; omega
  have h2' : decide (100 < k) = false := by simp; omega
  go_enter Tryd.func34, Tryd.ntmps34
  go_wp2
  refine wp_loop_rounds 1 ?_
  rw [rounds_succ]
  go_wp2
  go_ret
  exact ⟨rfl, bA0 _ _⟩

theorem irr_any (k : Int) (sl : Option Addr) (cap : Nat) (zs : List Int) (w : World) (hz : Ints w sl zs) :
    Calls Tryd.prog 34 #[RV k sl zs.length cap] w fun e w' => e = .returned (.bool (recR k zs)) ∧ Below w.heap.size w w' := by
  by_cases h : 1 ≤ k ∧ k ≤ 100
  · by_cases hn : zs.length ≤ 60
    · rw [recR_a h hn]
      rcases hz with rfl | ⟨c, o, rfl, hz⟩
      · exact irr_nil k sl cap w h.1 h.2
      · exact irr_some k c o cap zs w h.1 h.2 hn hz
    · rw [recR_n (by omega)]
      exact irr_bad k sl _ cap w (.inr (by omega))
  · rw [recR_k h]
    exact irr_bad k sl _ cap w (.inl h)

theorem szI_any (sl : Option Addr) (n cap : Nat) (m : Int) (w : World) (hn : n ≤ maxLen) (h0 : 0 ≤ m) (h1 : m ≤ 1048576) :
    Calls Tryd.prog 48 #[.slice sl n cap, .int .i64 m] w fun e w' => e = .returned (.int .i64 (if m - n < 0 then -1 else m - n)) ∧ Below w.heap.size w w' := by
  unfold maxLen at hn
  by_cases h : m - n < 0
  · rw [if_pos h]
    go_enter Tryd.func48, Tryd.ntmps48
    go_wp2
    go_ret
    exact ⟨rfl, Below.refl _ _⟩
  · rw [if_neg h]
    go_enter Tryd.func48, Tryd.ntmps48
    go_wp2
    go_ret
    exact ⟨rfl, Below.refl _ _⟩

theorem szR_any (k : Int) (sl : Option Addr) (n cap : Nat) (m : Int) (w : World) (hn : n ≤ maxLen) (h0 : 0 ≤ m) (h1 : m ≤ 1048576) :
    Calls Tryd.prog 21 #[RV k sl n cap, .int .i64 m] w fun e w' => e = .returned (.int .i64 (if m - n < 0 then -1 else m - n)) ∧ Below w.heap.size w w' := by
  have H : Hid (∀ w, Calls Tryd.prog 48 #[.slice sl n cap, .int .i64 m] w fun e w' => e = .returned (.int .i64 (if m - n < 0 then -1 else m - n)) ∧ Below w.heap.size w w') := fun w => szI_any sl n cap m w hn h0 h1
  by_cases h : m - n < 0
  · rw [if_pos h] at H ⊢
    go_enter Tryd.func21, Tryd.ntmps21
    go_wp2_with fail
    refine (H.out _).mono ?_
    rintro e w1 ⟨rfl, hb⟩
    go_wp2
    go_ret
    exact ⟨rfl, bT (bA0 _ _) hb⟩
  · rw [if_neg h] at H ⊢
    have h' : ¬ (m - (n : Int) < 0) := h
    go_enter Tryd.func21, Tryd.ntmps21
    go_wp2_with fail
    refine (H.out _).mono ?_
    rintro e w1 ⟨rfl, hb⟩
    go_wp2
    go_ret
    exact ⟨rfl, bT (bA0 _ _) hb⟩

theorem IntsAt.set {w : World} {c o : Nat} {zs : List Int} (h : IntsAt w c o zs) {b : Nat} (hb : c ≠ b) (i : Nat) (v : Value) : IntsAt (w.setCell ⟨b, i, none⟩ v) c o zs := by
  refine ⟨by simpa [World.setCell] using h.1, fun j hj => ?_⟩
  rw [← h.2 j hj]
  simp only [World.cell?]
  rw [Below.heap_setCell _ _ _ _ hb]
theorem Ints.set {w : World} {c o : Nat} {zs : List Int} (h : Ints w (some ⟨c, o, none⟩) zs) {b : Nat} (hb : c ≠ b) (i : Nat) (v : Value) : Ints (w.setCell ⟨b, i, none⟩ v) (some ⟨c, o, none⟩) zs := by
  rcases h with h | ⟨c', o', e, h⟩
  · exact .inl h
  · cases e; exact .inr ⟨_, _, rfl, h.set hb i v⟩

set_option maxHeartbeats 1000000 in
theorem toR_any (k : Int) (sl : Option Addr) (cap : Nat) (zs : List Int) (w : World) (hn : zs.length ≤ 1048576) (hz : Ints w sl zs) :
    Calls Tryd.prog 22 #[RV k sl zs.length cap] w fun e w' => e = .returned (RV k (some ⟨w.heap.size + 3, 0, none⟩) zs.length zs.length) ∧ Ints w' (some ⟨w.heap.size + 3, 0, none⟩) zs ∧ Below w.heap.size w w' := by
  have T : Hid (∀ w1, Below w.heap.size w w1 → Calls Tryd.prog 49 #[.slice sl zs.length cap] w1 fun e w' => e = .returned (.slice (some ⟨w1.heap.size, 0, none⟩) zs.length zs.length) ∧ Ints w' (some ⟨w1.heap.size, 0, none⟩) zs ∧ Below w1.heap.size w1 w') :=
    fun w1 hb => to_any sl cap zs w1 hn (hz.below hb)
  clear hz
  generalize zs.length = n at *
  go_enter Tryd.func22, Tryd.ntmps22
  go_wp2_with fail
  refine (T.out _ (bA (bA (bA0 _ _) _) _)).mono ?_
  rintro e w1 ⟨rfl, hi, hb⟩
  obtain ⟨hc, hf⟩ := bcell hb; have hz := hb.size; simp at hz hi
  have HI : Hid (Ints w1 (some ⟨w.heap.size + 1 + 1 + 1, 0, none⟩) zs) := hi
  clear hi
  go_wp2
  refine bodyPost_ret (v := RV k (some ⟨w.heap.size + 3, 0, none⟩) n n) (by simp [results, Tryd.results22, go_sem, hc]) rfl ⟨rfl, ?_, ?_⟩
  · exact (((HI.out.set (b := w.heap.size + 1 + 1) (by omega) _ _).set (b := w.heap.size + 1) (by omega) _ _).set (b := w.heap.size + 1) (by omega) _ _)
  · exact (((bT (bA (bA (bA0 _ _) _) _) hb).setCell (Nat.le_add_right _ 2) _).setCell (Nat.le_add_right _ 1) _).setCell (Nat.le_add_right _ 1) _

set_option maxHeartbeats 1000000 in
theorem eqR_any (k : Int) (sl sl2 : Option Addr) (cap cap2 : Nat) (zs : List Int) (w : World) (hn : zs.length ≤ maxLen) (hz : Ints w sl zs) (hz2 : Ints w sl2 zs) :
    Calls Tryd.prog 23 #[RV k sl zs.length cap, RV k sl2 zs.length cap2] w fun e w' => e = .returned (.bool true) ∧ Below w.heap.size w w' := by
  have E : Hid (∀ w1, Below w.heap.size w w1 → Calls Tryd.prog 50 #[.slice sl zs.length cap, .slice sl2 zs.length cap2] w1 fun e w' => e = .returned (.bool true) ∧ Below w1.heap.size w1 w') :=
    fun w1 hb => eq_any sl sl2 cap cap2 zs w1 hn (hz.below hb) (hz2.below hb)
  clear hz hz2
  generalize zs.length = n at *
  go_enter Tryd.func23, Tryd.ntmps23
  go_wp2_with fail
  refine (E.out _ (bA (bA0 _ _) _)).mono ?_
  rintro e w1 ⟨rfl, hb⟩
  go_wp2
  go_ret
  exact ⟨rfl, bT (bA (bA0 _ _) _) hb⟩

/-- A record in a block of its own. -/
def RAt (t : TypeId) (w : World) (b : Nat) (k : Int) (sl : Option Addr) (n cap : Nat) : Prop := w.heap[b]? = some (.cells #[.int .i64 k, .slice sl n cap] t)
theorem RAt.cells {t : TypeId} {w : World} {b : Nat} {k : Int} {sl : Option Addr} {n cap : Nat} (h : RAt t w b k sl n cap) : w.cell? ⟨b, 0, none⟩ = some (.int .i64 k) ∧ w.cell? ⟨b, 1, none⟩ = some (.slice sl n cap) := by
  unfold RAt at h
  refine ⟨?_, ?_⟩ <;> simp [World.cell?, h]
theorem RAt.lt {t : TypeId} {w : World} {b : Nat} {k : Int} {sl : Option Addr} {n cap : Nat} (h : RAt t w b k sl n cap) : b < w.heap.size := (Array.getElem?_eq_some_iff.1 h).1
theorem RAt.below {t : TypeId} {w w' : World} {b : Nat} {k : Int} {sl : Option Addr} {n cap : Nat} (h : RAt t w b k sl n cap) (hb : Below w.heap.size w w') : RAt t w' b k sl n cap := (hb.block b h.lt).trans h
theorem RAt.new (t : TypeId) (w : World) (k : Int) (sl : Option Addr) (n cap : Nat) : RAt t (w.alloc (.cells #[.int .i64 k, .slice sl n cap] t)) w.heap.size k sl n cap := by
  show (w.heap.push _)[w.heap.size]? = _
  simp

theorem ints_in {w : World} {a : Option Addr} {len cap : Nat} {zs : List Int}
    (h : (a = none ∧ len = 0 ∧ cap = 0 ∧ zs = []) ∨ ∃ x, a = some x ∧ len ≤ cap ∧ cap ≤ maxLen ∧ zs.length = cap ∧ (∀ i, i < zs.length → w.cell? (x.add i) = some (.int .i64 (zs.getD i 0))) ∧ ∀ n ∈ zs, (Lit.int .i64 n).wf = true) :
    Ints w a (zs.take len) ∧ (zs.take len).length = len := by
  rcases h with ⟨rfl, rfl, rfl, rfl⟩ | ⟨x, rfl, hl, hm, hz, hc, hw⟩
  · exact ⟨.inl rfl, rfl⟩
  · have hlen : (zs.take len).length = len := by simp; omega
    refine ⟨?_, hlen⟩
    by_cases h0 : len = 0
    · subst h0; exact .inl (by simp)
    · obtain ⟨c, o, spot⟩ := x
      have h1 := hc 0 (by omega)
      have hs : spot = none := by simpa [Addr.add] using World.cell?_spot h1
      subst hs
      have ha : ∀ i, (⟨c, o, none⟩ : Addr).add i = ⟨c, o + i, none⟩ := by
        intro i
        unfold Addr.add
        by_cases h : i = 0 <;> simp [h]
      refine .inr ⟨c, o, rfl, ?_, fun i hi => ?_⟩
      · rw [ha] at h1
        unfold World.cell? at h1
        cases e : w.heap[c]? with
        | none => simp [e] at h1
        | some ob => exact (Array.getElem?_eq_some_iff.1 e).1
      · rw [hlen] at hi
        have h2 := hc i (by omega)
        rw [ha] at h2
        rw [h2]
        simp [hi]

end Go.Proofs.YtnkdkbchendpmaaDoor
