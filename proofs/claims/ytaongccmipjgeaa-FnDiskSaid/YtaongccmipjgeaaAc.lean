/-
  DISKS: how the law measures, copies and compares them; the law FnExactDiskRight.
-/
import Derived.Test.YtaongccmipjgeaaAb
namespace Go.Proofs.Ytaongccmipjgeaa
open Go.RowKit
set_option linter.unusedVariables false

/-- What is left of m. -/
def szD (m : Int) (s : ByteArray) (ss : List ByteArray) : Int := if m - s.size < 0 then -1 else szS (m - s.size) ss
theorem szS_or (m : Int) (ss : List ByteArray) : szS m ss = -1 ∨ (0 ≤ szS m ss ∧ szS m ss = m - ss.length - tot ss) := by
  unfold szS
  by_cases h : m - ss.length - tot ss < 0
  · rw [if_pos h]; exact .inl rfl
  · rw [if_neg h]; exact .inr ⟨by omega, rfl⟩
theorem szD_or (m : Int) (s : ByteArray) (ss : List ByteArray) : szD m s ss = -1 ∨ (0 ≤ szD m s ss ∧ szD m s ss = m - s.size - ss.length - tot ss) := by
  unfold szD
  by_cases h : m - s.size < 0
  · rw [if_pos h]; exact .inl rfl
  · rw [if_neg h]; exact szS_or _ _

set_option maxHeartbeats 1000000 in
theorem szD_any (s : ByteArray) (sl : Option Addr) (cap : Nat) (ss : List ByteArray) (m : Int) (w : World) (h0 : 0 ≤ m) (h1 : m ≤ 1048576) (hn : ss.length ≤ maxLen) (hz : Strs w sl ss) (hs : ∀ s ∈ ss, s.size ≤ maxLen) (hs0 : s.size ≤ maxLen) :
    Calls Try.prog 17 #[DV s sl ss.length cap, .int .i64 m] w fun e w' => e = .returned (.int .i64 (szD m s ss)) ∧ Below w.heap.size w w' := by
  by_cases h : m - s.size < 0
  · have e : Hid (szD m s ss = -1) := by show _ = _; unfold szD; rw [if_pos h]
    unfold maxLen at hs0
    clear hz hs hn
    generalize ss.length = n at *
    go_enter Try.func17, Try.ntmps17
    go_wp2
    go_ret
    exact ⟨by rw [e.out]; rfl, bA0 _ _⟩
  · have e : szD m s ss = szS (m - s.size) ss := by unfold szD; rw [if_neg h]
    have Z : Hid (∀ w1, Below w.heap.size w w1 → Calls Try.prog 39 #[.slice sl ss.length cap, .int .i64 (m - s.size)] w1 fun e w' => e = .returned (.int .i64 (szS (m - s.size) ss)) ∧ w' = w1) :=
      fun w1 hb => szS_any sl cap ss (m - s.size) w1 hn (hz.below hb) hs (by omega) (by omega)
    have O := szS_or (m - s.size) ss
    have hs1 : (s.size : Int) ≤ 1048576 := by omega
    rw [e]
    clear hz hs hn e
    generalize ss.length = n at *
    generalize szS (m - s.size) ss = r at *
    rcases O with rfl | ⟨hr, -⟩
    · go_enter Try.func17, Try.ntmps17
      go_wp2_with fail
      refine (Z.out _ (bA0 _ _)).mono ?_
      rintro e w1 ⟨rfl, rfl⟩
      go_wp2
      go_ret
      exact ⟨rfl, bA0 _ _⟩
    · have hr' : ¬ r < 0 := by omega
      go_enter Try.func17, Try.ntmps17
      go_wp2_with fail
      refine (Z.out _ (bA0 _ _)).mono ?_
      rintro e w1 ⟨rfl, rfl⟩
      go_wp2
      go_ret
      exact ⟨rfl, bA0 _ _⟩

theorem RowAt.below {w w' : World} {b : Nat} {vs : Array Value} (h : RowAt w b vs) (hb : Below w.heap.size w w') : RowAt w' b vs := (hb.block b h.lt).trans h
theorem RowAt.other {w : World} {b c : Nat} {vs : Array Value} (h : RowAt w b vs) (hne : b ≠ c) (i : Nat) (v : Value) : RowAt (w.setCell ⟨c, i, none⟩ v) b vs := (Below.heap_setCell _ _ _ _ hne).trans h
theorem RowAt.str {w : World} {b : Nat} {ss : List ByteArray} (h : RowAt w b (vsOf ss ss.length)) : Strs w (some ⟨b, 0, none⟩) ss := .inr ⟨b, 0, rfl, h.strs (Nat.le_refl _)⟩

set_option maxHeartbeats 1000000 in
theorem toD_any (s : ByteArray) (sl : Option Addr) (cap : Nat) (ss : List ByteArray) (w : World) (hn : ss.length ≤ 1048576) (hz : Strs w sl ss) :
    Calls Try.prog 18 #[DV s sl ss.length cap] w fun e w' => e = .returned (DV s (some ⟨w.heap.size + 3, 0, none⟩) ss.length ss.length) ∧ RowAt w' (w.heap.size + 3) (vsOf ss ss.length) ∧ Below w.heap.size w w' := by
  have T : Hid (∀ w1, Below w.heap.size w w1 → Calls Try.prog 40 #[.slice sl ss.length cap] w1 fun e w' => e = .returned (.slice (some ⟨w1.heap.size, 0, none⟩) ss.length ss.length) ∧ RowAt w' w1.heap.size (vsOf ss ss.length) ∧ Below w1.heap.size w1 w') :=
    fun w1 hb => to_any sl cap ss w1 hn (hz.below hb)
  clear hz
  generalize vsOf ss ss.length = vs at *
  generalize ss.length = n at *
  go_enter Try.func18, Try.ntmps18
  go_wp2_with fail
  refine (T.out _ (by first | exact bA (bA (bA0 _ _) _) _ | exact (bA (bA (bA0 _ _) _) _).setCell (by simp <;> omega) _)).mono ?_
  rintro e w1 ⟨rfl, hi, hb⟩
  obtain ⟨hc, hf⟩ := bcell hb; have hz := hb.size; simp at hz hi
  have HI := Lib.hid hi
  have HB := Lib.hid hb
  clear hi hb
  go_wp2
  refine bodyPost_ret (v := DV s (some ⟨w.heap.size + 3, 0, none⟩) n n) (by simp [results, Try.results18, go_sem, hc]) rfl ⟨rfl, ?_, ?_⟩
  · exact (((HI.out.other (c := w.heap.size + 1 + 1) (by omega) _ _).other (c := w.heap.size + 1) (by omega) _ _).other (c := w.heap.size + 1) (by omega) _ _)
  · exact (((bT (by first | exact bA (bA (bA0 _ _) _) _ | exact (bA (bA (bA0 _ _) _) _).setCell (by simp <;> omega) _) HB.out).setCell (Nat.le_add_right _ 2) _).setCell (Nat.le_add_right _ 1) _).setCell (Nat.le_add_right _ 1) _

set_option maxHeartbeats 1000000 in
theorem eqD_any (s : ByteArray) (sl sl2 : Option Addr) (cap cap2 : Nat) (ss : List ByteArray) (w : World) (hn : ss.length ≤ maxLen) (hz : Strs w sl ss) (hz2 : Strs w sl2 ss) :
    Calls Try.prog 19 #[DV s sl ss.length cap, DV s sl2 ss.length cap2] w fun e w' => e = .returned (.bool true) ∧ Below w.heap.size w w' := by
  have E : Hid (∀ w1, Below w.heap.size w w1 → Calls Try.prog 41 #[.slice sl ss.length cap, .slice sl2 ss.length cap2] w1 fun e w' => e = .returned (.bool true) ∧ Below w1.heap.size w1 w') :=
    fun w1 hb => eq_any sl sl2 cap cap2 ss w1 hn (hz.below hb) (hz2.below hb)
  clear hz hz2
  generalize ss.length = n at *
  go_enter Try.func19, Try.ntmps19
  go_wp2_with fail
  refine (E.out _ (bA (bA0 _ _) _)).mono ?_
  rintro e w1 ⟨rfl, hb⟩
  go_wp2
  go_ret
  exact ⟨rfl, bT (bA (bA0 _ _) _) hb⟩

/-- A disk in a block of its own. -/
def DAt (t : TypeId) (w : World) (b : Nat) (s : ByteArray) (v : Value) : Prop := w.heap[b]? = some (.cells #[.string s, v] t)
theorem DAt.cells {t : TypeId} {w : World} {b : Nat} {s : ByteArray} {v : Value} (h : DAt t w b s v) : w.cell? ⟨b, 0, none⟩ = some (.string s) ∧ w.cell? ⟨b, 1, none⟩ = some v := by
  unfold DAt at h
  refine ⟨?_, ?_⟩ <;> simp [World.cell?, h]
theorem DAt.lt {t : TypeId} {w : World} {b : Nat} {s : ByteArray} {v : Value} (h : DAt t w b s v) : b < w.heap.size := (Array.getElem?_eq_some_iff.1 h).1
theorem DAt.below {t : TypeId} {w w' : World} {b : Nat} {s : ByteArray} {v : Value} (h : DAt t w b s v) (hb : Below w.heap.size w w') : DAt t w' b s v := (hb.block b h.lt).trans h
theorem DAt.new (t : TypeId) (w : World) (s : ByteArray) (v : Value) : DAt t (w.alloc (.cells #[.string s, v] t)) w.heap.size s v := by
  show (w.heap.push _)[w.heap.size]? = _
  simp
theorem DAt.frozen {t : TypeId} {w : World} {b : Nat} {s : ByteArray} {v : Value} (h : DAt t w b s v) (o : Nat) : w.frozen? ⟨b, o, none⟩ = false := by
  unfold DAt at h; simp [World.frozen?, h]
theorem DAt.other {t : TypeId} {w : World} {b c : Nat} {s : ByteArray} {v : Value} (h : DAt t w b s v) (hne : b ≠ c) (i : Nat) (x : Value) : DAt t (w.setCell ⟨c, i, none⟩ x) b s v := (Below.heap_setCell _ _ _ _ hne).trans h

set_option maxHeartbeats 1000000 in
theorem law4 (s : ByteArray) (sl : Option Addr) (cap : Nat) (ss : List ByteArray) (w : World) (hz : Strs w sl ss) (hs : ∀ s ∈ ss, s.size ≤ maxLen) (hs0 : s.size ≤ maxLen) (hn : ss.length ≤ maxLen) (hge : 0 ≤ szD 1048576 s ss) :
    Calls Try.prog 4 #[DV s sl ss.length cap] w fun e w' => e = .returned (.bool true) ∧ Below w.heap.size w w' := by
  have hsz : (s.size : Int) + ss.length + tot ss ≤ 1048576 := by
    rcases szD_or 1048576 s ss with h | ⟨_, h⟩ <;> omega
  have hl : ¬ szD 1048576 s ss < 0 := by omega
  have HZ : Hid (Strs w sl ss) := hz
  clear hz
  have SZ : Hid (∀ w1, Below w.heap.size w w1 → Calls Try.prog 17 #[DV s sl ss.length cap, .int .i64 1048576] w1 fun e w' => e = .returned (.int .i64 (szD 1048576 s ss)) ∧ Below w1.heap.size w1 w') :=
    fun w1 hb => szD_any s sl cap ss 1048576 w1 (by omega) (by omega) hn (HZ.out.below hb) hs hs0
  have T : Hid (∀ w1, Below w.heap.size w w1 → Calls Try.prog 18 #[DV s sl ss.length cap] w1 fun e w' => e = .returned (DV s (some ⟨w1.heap.size + 3, 0, none⟩) ss.length ss.length) ∧ RowAt w' (w1.heap.size + 3) (vsOf ss ss.length) ∧ Below w1.heap.size w1 w') :=
    fun w1 hb => toD_any s sl cap ss w1 (by omega) (HZ.out.below hb)
  have S1 : Hid (∀ w1 a c, Strs w1 a ss → Calls Try.prog 11 #[DV s a ss.length c] w1 fun e w' => e = .returned (.bool (dR s ss)) ∧ Below w1.heap.size w1 w') := fun w1 a c h => sdr_any s a c ss w1 h
  have S2 : Hid (∀ w1 a c, Strs w1 a ss → Calls Try.prog 14 #[DV s a ss.length c] w1 fun e w' => e = .returned (.bool (dR s ss)) ∧ Below w1.heap.size w1 w') := fun w1 a c h => idr_any s a c ss w1 (by omega) h
  have EQ : Hid (∀ w1 a c a2 c2, Strs w1 a ss → Strs w1 a2 ss → Calls Try.prog 19 #[DV s a ss.length c, DV s a2 ss.length c2] w1 fun e w' => e = .returned (.bool true) ∧ Below w1.heap.size w1 w') :=
    fun w1 a c a2 c2 h h2 => eqD_any s a a2 c c2 ss w1 hn h h2
  have RS : Hid (∀ (w1 : World) b, RowAt w1 b (vsOf ss ss.length) → Strs w1 (some ⟨b, 0, none⟩) ss) := fun w1 b h => h.str
  clear hs hs0 hn hsz hge
  generalize vsOf ss ss.length = vs at *
  generalize ss.length = n at *
  generalize dR s ss = r at *
  generalize szD 1048576 s ss = z at *
  go_enter Try.func4, Try.ntmps4
  go_wp2_with fail
  refine (SZ.out _ (bA0 _ _)).mono ?_
  rintro e w0 ⟨rfl, b0⟩
  have B0 : Hid (Below w.heap.size w w0) := bT (bA0 _ _) b0
  have R0 : Hid (DAt 33 w0 w.heap.size s (.slice sl n cap)) := (DAt.new 33 w s _).below b0
  obtain ⟨c0, c1⟩ := R0.out.cells
  clear b0
  go_wp2_with fail
  refine (T.out _ B0.out).mono ?_
  rintro e w1 ⟨rfl, i1, b1⟩
  have I1 : Hid (Strs w1 (some ⟨w0.heap.size + 3, 0, none⟩) ss) := RS.out _ _ i1
  have B1 : Hid (Below w.heap.size w w1) := bT B0.out b1
  have R1 : Hid (DAt 33 w1 w.heap.size s (.slice sl n cap)) := R0.out.below b1
  clear i1 b1 B0 c0 c1 R0
  go_wp2_with fail
  refine (S1.out _ _ _ I1.out).mono ?_
  rintro e w2 ⟨rfl, b2⟩
  have B2 : Hid (Below w.heap.size w w2) := bT B1.out b2
  have R2 : Hid (DAt 33 w2 w.heap.size s (.slice sl n cap)) := R1.out.below b2
  obtain ⟨c0, c1⟩ := R2.out.cells
  clear b2 I1 B1 R1
  go_wp2_with fail
  refine (T.out _ B2.out).mono ?_
  rintro e w3 ⟨rfl, i3, b3⟩
  generalize w2.heap.size + 3 = q at *
  have I3 : Hid (Strs (w3.alloc (.cells #[.string s, .slice (some ⟨q, 0, none⟩) n n] 25)) (some ⟨q, 0, none⟩) ss) := (RS.out _ _ i3).below (bA0 _ _)
  have B3 : Hid (Below w.heap.size w (w3.alloc (.cells #[.string s, .slice (some ⟨q, 0, none⟩) n n] 25))) := bA (bT B2.out b3) _
  have R3 : Hid (DAt 33 (w3.alloc (.cells #[.string s, .slice (some ⟨q, 0, none⟩) n n] 25)) w.heap.size s (.slice sl n cap)) := (R2.out.below b3).below (bA0 _ _)
  have X3 : Hid (DAt 25 (w3.alloc (.cells #[.string s, .slice (some ⟨q, 0, none⟩) n n] 25)) w3.heap.size s (.slice (some ⟨q, 0, none⟩) n n)) := DAt.new 25 w3 s _
  clear i3 b3 B2 c0 c1 R2
  go_wp2_with fail
  refine (S2.out _ _ _ I3.out).mono ?_
  rintro e w4 ⟨rfl, b4⟩
  have I4 : Hid (Strs w4 (some ⟨q, 0, none⟩) ss) := I3.out.below b4
  have B4 : Hid (Below w.heap.size w w4) := bT B3.out b4
  have R4 : Hid (DAt 33 w4 w.heap.size s (.slice sl n cap)) := R3.out.below b4
  have X4 : Hid (DAt 25 w4 w3.heap.size s (.slice (some ⟨q, 0, none⟩) n n)) := X3.out.below b4
  clear b4 I3 B3 R3 X3
  obtain ⟨c0, c1⟩ := R4.out.cells
  obtain ⟨d0, d1⟩ := X4.out.cells
  have hd := X4.out.lt
  have hc := R4.out.lt
  have I5 : Hid (Strs w4.drew (some ⟨q, 0, none⟩) ss) := I4.out
  generalize w3.heap.size = b3 at *
  generalize hb0 : w.heap.size = b0 at *
  go_wp2_with fail
  go_region_held3 (fun w' => b3 < w'.heap.size ∧ b0 < w'.heap.size ∧ w'.cell? ⟨b3, 0, none⟩ = some (.string s) ∧ w'.cell? ⟨b3, 1, none⟩ = some (.slice (some ⟨q, 0, none⟩) n n) ∧ w'.cell? ⟨b0, 0, none⟩ = some (.string s) ∧ w'.cell? ⟨b0, 1, none⟩ = some (.slice sl n cap))
    (first | exact ⟨hd, hc, d0, d1, c0, c1⟩ | exact ⟨Nat.lt_of_lt_of_le hd b5.size, Nat.lt_of_lt_of_le hc b5.size, (b5.cell hd).trans d0, (b5.cell hd).trans d1, (b5.cell hc).trans c0, (b5.cell hc).trans c1⟩ | exact ⟨Nat.lt_of_lt_of_le (Nat.lt_of_lt_of_le hd b5.size) b6.size, Nat.lt_of_lt_of_le (Nat.lt_of_lt_of_le hc b5.size) b6.size, (b6.cell (Nat.lt_of_lt_of_le hd b5.size)).trans ((b5.cell hd).trans d0), (b6.cell (Nat.lt_of_lt_of_le hd b5.size)).trans ((b5.cell hd).trans d1), (b6.cell (Nat.lt_of_lt_of_le hc b5.size)).trans ((b5.cell hc).trans c0), (b6.cell (Nat.lt_of_lt_of_le hc b5.size)).trans ((b5.cell hc).trans c1)⟩)
    (first | (go_at_call 18; refine (T.out _ (by first | exact B4.out | exact B4.out.drew | exact below_drewN B4.out _)).mono ?_; rintro e w5 ⟨rfl, i5, b5⟩) | (go_at_call 19; refine (EQ.out _ _ _ _ _ (I5.out.below b5) (RS.out _ _ i5)).mono ?_; rintro e w6 ⟨rfl, b6⟩))
  subst hb0
  have B6 : Hid (Below w.heap.size w w6) := bT (bT B4.out.drew b5) b6
  clear b5 b6 B4 i5
  go_wp2
  go_ret
  exact ⟨rfl, B6.out⟩

theorem law4_long (s : ByteArray) (sl : Option Addr) (cap : Nat) (ss : List ByteArray) (w : World) (hz : Strs w sl ss) (hs : ∀ s ∈ ss, s.size ≤ maxLen) (hs0 : s.size ≤ maxLen) (hn : ss.length ≤ maxLen) (hge : szD 1048576 s ss = -1) :
    Calls Try.prog 4 #[DV s sl ss.length cap] w fun e w' => e = .returned (.bool true) ∧ Below w.heap.size w w' := by
  have SZ : Hid (∀ w1, Below w.heap.size w w1 → Calls Try.prog 17 #[DV s sl ss.length cap, .int .i64 1048576] w1 fun e w' => e = .returned (.int .i64 (-1)) ∧ Below w1.heap.size w1 w') :=
    fun w1 hb => by have := szD_any s sl cap ss 1048576 w1 (by omega) (by omega) hn (hz.below hb) hs hs0; rwa [hge] at this
  clear hz hs hs0 hn hge
  generalize ss.length = n at *
  go_enter Try.func4, Try.ntmps4
  go_wp2_with fail
  refine (SZ.out _ (bA0 _ _)).mono ?_
  rintro e w0 ⟨rfl, b0⟩
  go_wp2
  go_ret
  exact ⟨rfl, bT (bA0 _ _) b0⟩

theorem law4_all (s : ByteArray) (sl : Option Addr) (cap : Nat) (ss : List ByteArray) (w : World) (hz : Strs w sl ss) (hs : ∀ s ∈ ss, s.size ≤ maxLen) (hs0 : s.size ≤ maxLen) (hn : ss.length ≤ maxLen) :
    Calls Try.prog 4 #[DV s sl ss.length cap] w fun e w' => e = .returned (.bool true) ∧ Below w.heap.size w w' := by
  rcases szD_or 1048576 s ss with h | ⟨h, _⟩
  · exact law4_long s sl cap ss w hz hs hs0 hn h
  · exact law4 s sl cap ss w hz hs hs0 hn h

/-- What a disk that came in reads as. -/
def IsStrs (w : World) (a : Option Addr) (len cap : Nat) (Sx : Nat → ByteArray) : Prop :=
  (a = none ∧ len = 0 ∧ cap = 0) ∨ ∃ x, a = some x ∧ len ≤ cap ∧ cap ≤ maxLen ∧ ∀ i, i < cap → w.cell? (x.add i) = some (.string (Sx i)) ∧ (Sx i).size ≤ maxLen
theorem strs_in {w : World} {a : Option Addr} {len cap : Nat} {Sx : Nat → ByteArray} (h : IsStrs w a len cap Sx) :
    ∃ ss : List ByteArray, Strs w a ss ∧ ss.length = len ∧ (∀ s ∈ ss, s.size ≤ maxLen) ∧ len ≤ maxLen := by
  rcases h with ⟨rfl, rfl, rfl⟩ | ⟨x, rfl, hl, hm, hc⟩
  · exact ⟨[], .inl rfl, rfl, by simp, Nat.zero_le _⟩
  · refine ⟨(List.range len).map Sx, ?_, by simp, fun s hs => ?_, Nat.le_trans hl hm⟩
    · by_cases h0 : len = 0
      · subst h0; exact .inl rfl
      · obtain ⟨c, o, spot⟩ := x
        have h1 := (hc 0 (by omega)).1
        have hs : spot = none := by simpa [Addr.add] using World.cell?_spot h1
        subst hs
        have ha : ∀ i, (⟨c, o, none⟩ : Addr).add i = ⟨c, o + i, none⟩ := by
          intro i
          unfold Addr.add
          by_cases h : i = 0 <;> simp [h]
        refine .inr ⟨c, o, rfl, ?_, fun i hi => ?_⟩
        · rw [ha] at h1
          unfold World.cell? at h1
          cases e : w.heap[c]? with
          | none => simp [e] at h1
          | some ob => exact (Array.getElem?_eq_some_iff.1 e).1
        · simp only [List.length_map, List.length_range] at hi
          have h2 := (hc i (by omega)).1
          rw [ha] at h2
          rw [h2]
          simp [at0, hi]
    · obtain ⟨i, hi, rfl⟩ := List.mem_map.1 hs
      exact (hc i (by have := List.mem_range.1 hi; omega)).2

end Go.Proofs.Ytaongccmipjgeaa
