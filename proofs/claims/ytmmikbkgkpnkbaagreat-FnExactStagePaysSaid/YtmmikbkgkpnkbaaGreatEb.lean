/-
  THE PARTS OF A RIGHT STAGE: money not below nought, tops, and who has won.
-/
import Derived.Test.YtmmikbkgkpnkbaaGreatCd
import Derived.Test.YtmmikbkgkpnkbaaGreatEa
namespace Go.Proofs.YtmmikbkgkpnkbaaGreat
open Go.RowKit
set_option linter.unusedVariables false

def NouR (x : Int) : Prop := 0 ≤ x ∧ x ≤ 1000000000000
def MonR (x : Int) : Prop := -1000000000000 ≤ x ∧ x ≤ 1000000000000
/-- (amount).isFromNought. -/
theorem nou_any (x : Int) (w : World) : Calls Tryz.prog 28 #[.int .i64 x] w fun e w' => e = .returned (.bool (B (NouR x))) ∧ w = w' := by
  by_cases h0 : 0 ≤ x
  · by_cases h1 : x ≤ 1000000000000
    · rw [B_yes ⟨h0, h1⟩]
      go_enter Tryz.func28, Tryz.ntmps28
      go_wp2
      go_ret
      exact ⟨rfl, rfl⟩
    · rw [B_no (fun h => h1 h.2)]
      go_enter Tryz.func28, Tryz.ntmps28
      go_wp2
      go_ret
      exact ⟨rfl, rfl⟩
  · rw [B_no (fun h => h0 h.1)]
    go_enter Tryz.func28, Tryz.ntmps28
    go_wp2
    go_ret
    exact ⟨rfl, rfl⟩
/-- spec.l01Money. -/
theorem mon_any (x : Int) (w : World) : Calls Tryz.prog 23 #[.int .i64 x] w fun e w' => e = .returned (.bool (B (MonR x))) ∧ w = w' := by
  by_cases h0 : -1000000000000 ≤ x
  · by_cases h1 : x ≤ 1000000000000
    · rw [B_yes ⟨h0, h1⟩]
      go_enter Tryz.func23, Tryz.ntmps23
      go_wp2
      go_ret
      exact ⟨rfl, rfl⟩
    · rw [B_no (fun h => h1 h.2)]
      go_enter Tryz.func23, Tryz.ntmps23
      go_wp2
      go_ret
      exact ⟨rfl, rfl⟩
  · rw [B_no (fun h => h0 h.1)]
    go_enter Tryz.func23, Tryz.ntmps23
    go_wp2
    go_ret
    exact ⟨rfl, rfl⟩

/-- Tops that an auction may go along. -/
def TopsR (us : List Int) : Prop := 1 ≤ us.length ∧ us.length ≤ 6 ∧ InRise 2 51 us
set_option maxHeartbeats 1000000 in
/-- impl.topsRight. -/
theorem tor_any (ul : Option Addr) (cu : Nat) (us : List Int) (w : World) (hu : us.length ≤ 1048576) (hz : Ints w ul us) :
    Calls Tryz.prog 27 #[.slice ul us.length cu] w fun e w' => e = .returned (.bool (B (TopsR us))) ∧ Below w.heap.size w w' := by
  have E := Lib.hid (rw_any 2 51 ul cu us w (by unfold maxLen; omega) hz)
  by_cases h1 : 1 ≤ us.length
  case neg =>
    rw [B_no (fun h => h1 h.1)]
    have h1' : ¬ (1 : Int) ≤ (us.length : Int) := by omega
    clear E hz
    generalize us.length = u at *
    go_enter Tryz.func27, Tryz.ntmps27
    go_wp2
    go_ret
    exact ⟨rfl, Below.refl _ _⟩
  have h1' : (1 : Int) ≤ (us.length : Int) := by omega
  by_cases h2 : us.length ≤ 6
  case neg =>
    rw [B_no (fun h => h2 h.2.1)]
    have h2' : ¬ (us.length : Int) ≤ 6 := by omega
    clear E hz
    generalize us.length = u at *
    go_enter Tryz.func27, Tryz.ntmps27
    go_wp2
    go_ret
    exact ⟨rfl, Below.refl _ _⟩
  have h2' : (us.length : Int) ≤ 6 := by omega
  rw [show B (TopsR us) = B (InRise 2 51 us) from B_iff ⟨fun h => h.2.2, fun h => ⟨h1, h2, h⟩⟩]
  clear hz
  generalize B (InRise 2 51 us) = r at *
  generalize us.length = u at *
  go_enter Tryz.func27, Tryz.ntmps27
  go_wp2_with fail
  refine E.out.mono ?_
  rintro e w1 ⟨rfl, b1⟩
  have D1 := Lib.hid b1
  clear b1
  go_wp2
  go_ret
  exact ⟨rfl, D1.out⟩
set_option maxHeartbeats 1000000 in
/-- spec.l13Tops. -/
theorem sto_any (ul : Option Addr) (cu : Nat) (us : List Int) (w : World) (hu : us.length ≤ 1048576) (hz : Ints w ul us) :
    Calls Tryz.prog 22 #[.slice ul us.length cu] w fun e w' => e = .returned (.bool (B (TopsR us))) ∧ Below w.heap.size w w' := by
  have E := Lib.hid (ri_any ul cu us w hu hz)
  have F : Hid (∀ W, Below w.heap.size w W → Calls Tryz.prog 48 #[.slice ul us.length cu, .int .i64 2, .int .i64 51] W fun e w' => e = .returned (.bool (us.all (inB 2 51))) ∧ w' = W) := fun W hW => l01All_any 2 51 ul cu us W (by unfold maxLen; omega) (hz.below hW)
  have IF := Lib.hid (InRise.iff 2 51 us)
  by_cases h1 : 1 ≤ us.length
  case neg =>
    rw [B_no (fun h => h1 h.1)]
    have h1' : ¬ (1 : Int) ≤ (us.length : Int) := by omega
    clear E F IF hz
    generalize us.length = u at *
    go_enter Tryz.func22, Tryz.ntmps22
    go_wp2
    go_ret
    exact ⟨rfl, Below.refl _ _⟩
  have h1' : (1 : Int) ≤ (us.length : Int) := by omega
  by_cases h2 : us.length ≤ 6
  case neg =>
    rw [B_no (fun h => h2 h.2.1)]
    have h2' : ¬ (us.length : Int) ≤ 6 := by omega
    clear E F IF hz
    generalize us.length = u at *
    go_enter Tryz.func22, Tryz.ntmps22
    go_wp2
    go_ret
    exact ⟨rfl, Below.refl _ _⟩
  have h2' : (us.length : Int) ≤ 6 := by omega
  by_cases h3 : RiseTo us us.length
  case neg =>
    rw [B_no (fun h => h3 (IF.out.1 h.2.2).1)]
    rw [B_no h3] at E
    clear F IF hz h3
    generalize us.length = u at *
    go_enter Tryz.func22, Tryz.ntmps22
    go_wp2_with fail
    refine E.out.mono ?_
    rintro e w1 ⟨rfl, b1⟩
    have D1 := Lib.hid b1
    clear b1
    go_wp2
    go_ret
    exact ⟨rfl, D1.out⟩
  rw [B_yes h3] at E
  rw [show B (TopsR us) = us.all (inB 2 51) by
    by_cases h4 : us.all (inB 2 51) = true
    · rw [B_yes ⟨h1, h2, IF.out.2 ⟨h3, h4⟩⟩, h4]
    · rw [B_no (fun h => h4 (IF.out.1 h.2.2).2)]
      simpa using h4]
  clear hz IF h3
  generalize us.all (inB 2 51) = r at *
  generalize us.length = u at *
  go_enter Tryz.func22, Tryz.ntmps22
  go_wp2_with fail
  refine E.out.mono ?_
  rintro e w1 ⟨rfl, b1⟩
  have D1 := Lib.hid b1
  clear b1
  go_wp2_with fail
  refine (F.out _ D1.out).mono ?_
  rintro e w2 ⟨rfl, rfl⟩
  go_wp2
  go_ret
  exact ⟨rfl, D1.out⟩

/-- Who has won, up to a place: those that are not out, if it is closed; else none. -/
def WonTo (gc : Bool) (bs : List LPr) (k : Nat) : Prop := ∀ i (h : i < bs.length), i < k → ((bs[i].2.1 = 4) ↔ (gc = true ∧ bs[i].2.1 ≠ 3))
theorem WonTo.step {gc : Bool} {bs : List LPr} {k : Nat} (h : WonTo gc bs k) (hk : k < bs.length) (g : (bs[k].2.1 = 4) ↔ (gc = true ∧ bs[k].2.1 ≠ 3)) : WonTo gc bs (k + 1) := by
  intro i hi hik
  by_cases e : i = k
  · subst e; exact g
  · exact h i hi (by omega)
set_option maxRecDepth 100000 in
set_option maxHeartbeats 4000000 in
/-- impl.wonJustIf. -/
theorem won_any (gc : Bool) (bl : Option Addr) (cb : Nat) (bs : List LPr) (w : World) (hq : bs.length ≤ 1048576) (hbs : Prs w bl bs) :
    Calls Tryz.prog 29 #[.bool gc, .slice bl bs.length cb] w fun e w' => e = .returned (.bool (B (WonTo gc bs bs.length))) ∧ Below w.heap.size w w' := by
  have YY := Lib.hid (show ∀ k, bs.length ≤ k → WonTo gc bs k → B (WonTo gc bs bs.length) = true from fun k hk h => B_yes (fun i hi _ => h i hi (by omega)))
  have NN := Lib.hid (show ∀ (k : Nat) (b : LPr), bs[k]? = some b → ¬ ((b.2.1 = 4) ↔ (gc = true ∧ b.2.1 ≠ 3)) → B (WonTo gc bs bs.length) = false from fun k b hb h => B_no (fun g => h (by obtain ⟨hk, rfl⟩ := List.getElem?_eq_some_iff.1 hb; exact g k hk hk)))
  have HB := Lib.hid hbs
  clear hbs
  generalize B (WonTo gc bs bs.length) = r at *
  generalize hQ : bs.length = q at *
  have HQ := Lib.hid hQ
  clear hQ
  go_enter Tryz.func29, Tryz.ntmps29
  go_wp2
  go_loopw [13] (fun i wr => ∃ k : Nat, i = .int .i64 k ∧ k ≤ q ∧ Hid (WonTo gc bs k) ∧ Hid (Below w.heap.size w wr)) (fun i _ => q - (intOf i).toNat)
  case atStart => exact ⟨0, rfl, Nat.zero_le _, fun i h h' => absurd h' (Nat.not_lt_zero _), Below.refl _ _⟩
  case round =>
    obtain ⟨k, rfl, hk, H1, H2⟩ := hrel
    have hk0 : (0 : Int) ≤ (k : Int) := by omega
    by_cases h1 : k < q
    · have h1' : (k : Int) < (q : Int) := by omega
      have hlt : k < bs.length := by rw [HQ.out]; exact h1
      obtain ⟨g, o, rfl, ZI⟩ : ∃ c o, bl = some ⟨c, o, none⟩ ∧ PrAt w c o bs := by
        rcases HB.out with e | h
        · rw [e] at hlt; simp at hlt
        · exact h
      obtain ⟨e0, e1, e2⟩ := (ZI.below H2.out).cell k hlt
      have zl := (ZI.below H2.out).lt
      have N1 := Lib.hid (NN.out k _ (List.getElem?_eq_getElem hlt))
      have S1 := Lib.hid (H1.out.step hlt)
      obtain ⟨x, y, z, hp⟩ : ∃ a b q, bs[k] = (a, b, q) := ⟨_, _, _, rfl⟩
      rw [hp] at e0 e1 e2 N1 S1
      dsimp only at e0 e1 e2 N1 S1
      clear hp hlt ZI H1 YY NN HB HQ
      have E4 := Lib.hid (hol_any 4 x y z)
      have E3 := Lib.hid (hol_any 3 x y z)
      have B5 := Lib.hid (bA H2.out (.cells #[.int .i64 x, .int .i64 y, .int .i64 z] 60))
      have N5 := Lib.hid (new_at wr (.cells #[.int .i64 x, .int .i64 y, .int .i64 z] 60))
      go_wp2_with fail
      refine (E4.out _).mono ?_
      rintro e w6 ⟨rfl, b6⟩
      have B6 := Lib.hid (bT B5.out b6)
      have k6 := (b6.block wr.heap.size (by simp)).trans N5.out
      obtain ⟨d0, d1, d2, df, dl⟩ := cells3 k6
      clear b6 B5 N5 k6
      cases gc
      · by_cases hy : y = 4
        · have HF := N1.out (fun h => by have := h.1 hy; simp at this)
          subst HF
          have hy' : (y == 4) = true := by simpa using hy
          rw [hy']
          clear hy hy' S1
          go_wp2
          go_ret
          exact ⟨rfl, B6.out⟩
        · have S2 := Lib.hid (S1.out ⟨fun h => absurd h hy, fun h => by simp at h⟩)
          have hy' : (y == 4) = false := by simpa using hy
          rw [hy']
          clear hy hy' S1 N1
          go_wp2
          go_roundw
          case rel => exact ⟨k + 1, by go_num, by omega, S2, B6⟩
          case measure => simp [intOf]; omega
      · go_wp2_with fail
        refine (E3.out _).mono ?_
        rintro e w7 ⟨rfl, b7⟩
        have B7 := Lib.hid (bT B6.out b7)
        clear b7 B6
        by_cases ha : y = 4
        · have hb : ¬ y = 3 := by omega
          have S2 := Lib.hid (S1.out ⟨fun _ => ⟨by trivial, hb⟩, fun _ => ha⟩)
          have ha' : (y == 4) = true := by simpa using ha
          have hb' : (y == 3) = false := by simpa using hb
          rw [ha', hb']
          clear ha ha' hb hb' S1 N1
          go_wp2
          go_roundw
          case rel => exact ⟨k + 1, by go_num, by omega, S2, B7⟩
          case measure => simp [intOf]; omega
        · have ha' : (y == 4) = false := by simpa using ha
          by_cases hb : y = 3
          · have S2 := Lib.hid (S1.out ⟨fun h => absurd h ha, fun h => absurd hb h.2⟩)
            have hb' : (y == 3) = true := by simpa using hb
            rw [ha', hb']
            clear ha ha' hb hb' S1 N1
            go_wp2
            go_roundw
            case rel => exact ⟨k + 1, by go_num, by omega, S2, B7⟩
            case measure => simp [intOf]; omega
          · have HF := N1.out (fun h => ha (h.2 ⟨by trivial, hb⟩))
            subst HF
            have hb' : (y == 3) = false := by simpa using hb
            rw [ha', hb']
            clear ha ha' hb hb' S1
            go_wp2
            go_ret
            exact ⟨rfl, B7.out⟩
    · have h1' : ¬ (k : Int) < (q : Int) := by omega
      have HE := YY.out k (by omega) H1.out
      subst HE
      go_wp2
      go_ret
      exact ⟨rfl, H2.out⟩
end Go.Proofs.YtmmikbkgkpnkbaaGreat
