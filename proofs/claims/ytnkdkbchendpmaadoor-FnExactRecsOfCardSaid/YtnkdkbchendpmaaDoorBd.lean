/-
  A RECORD's BYTES, AS THE MODEL TELLS THEM.
-/
import Derived.Test.YtnkdkbchendpmaaDoorBc
namespace Go.Proofs.YtnkdkbchendpmaaDoor
open Go.RowKit
set_option linter.unusedVariables false

set_option maxHeartbeats 1000000 in
set_option maxRecDepth 100000 in
theorem sfour_any (x : Nat) (hx : x < 4294967296) (w : World) :
    Calls Tryd.prog 41 #[.int .i64 x] w fun e w' => e = .returned (.string ⟨(fourB x).toArray⟩) ∧ Below w.heap.size w w' := by
  have hcv : Sem.run Tryd.prog (convert 22 9 (.slice (some ⟨w.heap.size, 0, none⟩) 4 4)) (w.alloc (.cells #[.int .u8 ((x : Int) / 16777216), .int .u8 ((x : Int) / 65536 % 256), .int .u8 ((x : Int) / 256 % 256), .int .u8 ((x : Int) % 256)] 5)) = .ok (.string ⟨(fourB x).toArray⟩) (w.alloc (.cells #[.int .u8 ((x : Int) / 16777216), .int .u8 ((x : Int) / 65536 % 256), .int .u8 ((x : Int) / 256 % 256), .int .u8 ((x : Int) % 256)] 5)) := by
    have e : (#[.int .u8 ((x : Int) / 16777216), .int .u8 ((x : Int) / 65536 % 256), .int .u8 ((x : Int) / 256 % 256), .int .u8 ((x : Int) % 256)] : Array Value) = (Lib.byteCells (fourB x)).toArray := by
      have u (m : Nat) (h : m < 256) : (m.toUInt8).toNat = m := by simp; omega
      simp only [Lib.byteCells, fourB, List.map_cons, List.map_nil, u _ (Nat.mod_lt _ (by decide : 256 > 0))]
      rw [show ((x / 16777216 % 256 : Nat) : Int) = (x : Int) / 16777216 by omega, show ((x / 65536 % 256 : Nat) : Int) = (x : Int) / 65536 % 256 by omega, show ((x / 256 % 256 : Nat) : Int) = (x : Int) / 256 % 256 by omega, show ((x % 256 : Nat) : Int) = (x : Int) % 256 by omega]
    rw [e]
    refine run_convert_bytes_back (P := Tryd.prog) _ 22 9 5 ⟨w.heap.size, 0, none⟩ 4 (fourB x) Tryd.underlying22 Tryd.underlying5 Tryd.underlying9 (fun j hj => ?_)
    have hb : (w.alloc (.cells (Lib.byteCells (fourB x)).toArray 5)).heap[w.heap.size]? = some (.cells (Lib.byteCells (fourB x)).toArray 5 (0, 0)) := by show (w.heap.push _)[w.heap.size]? = _; simp
    have ha : (⟨w.heap.size, 0, none⟩ : Addr).add j = ⟨w.heap.size, j, none⟩ := by
      unfold Addr.add
      by_cases h : j = 0 <;> simp [h]
    rw [ha]
    simp only [World.cell?, hb]
    simp [Lib.byteCells, hj]
  go_enter Tryd.func41, Tryd.ntmps41
  go_wp2
  go_ret
  exact ⟨rfl, bA0 _ _⟩

theorem srb_no (k : Int) (sl : Option Addr) (cap : Nat) (zs : List Int) (w : World) (hn : zs.length ≤ maxLen) (hz : Ints w sl zs) (hr : recR k zs = false) :
    Calls Tryd.prog 15 #[RV k sl zs.length cap] w fun e w' => e = .returned (.string ⟨#[]⟩) ∧ Below w.heap.size w w' := by
  have R : Hid (∀ w1, Below w.heap.size w w1 → Calls Tryd.prog 33 #[RV k sl zs.length cap] w1 fun e w' => e = .returned (.bool false) ∧ Below w1.heap.size w1 w') := fun w1 hb => by
    have := srr_any k sl cap zs w1 hn (hz.below hb); rwa [hr] at this
  clear hz hr
  generalize zs.length = n at *
  go_enter Tryd.func15, Tryd.ntmps15
  go_wp2_with fail
  refine (R.out _ (bA0 _ _)).mono ?_
  rintro e w1 ⟨rfl, b1⟩
  go_wp2
  go_ret
  exact ⟨rfl, bT (bA0 _ _) b1⟩

/-- What stays while the model's texts are put together. -/
theorem keepR {w0 w w' : World} {b : Nat} {k : Int} {sl : Option Addr} {n cap : Nat} (h : w.cell? ⟨b, 0, none⟩ = some (.int .i64 k) ∧ w.cell? ⟨b, 1, none⟩ = some (.slice sl n cap) ∧ b < w.heap.size ∧ Below w0.heap.size w0 w) (hb : Below w.heap.size w w') :
    w'.cell? ⟨b, 0, none⟩ = some (.int .i64 k) ∧ w'.cell? ⟨b, 1, none⟩ = some (.slice sl n cap) ∧ b < w'.heap.size ∧ Below w0.heap.size w0 w' :=
  ⟨(hb.cell h.2.2.1).trans h.1, (hb.cell h.2.2.1).trans h.2.1, Nat.lt_of_lt_of_le h.2.2.1 hb.size, bT h.2.2.2 hb⟩

set_option maxHeartbeats 1000000 in
theorem srb_yes (k : Nat) (sl : Option Addr) (cap : Nat) (zs : List Int) (w : World) (hz : Ints w sl zs) (hr : recR k zs = true) :
    Calls Tryd.prog 15 #[RV k sl zs.length cap] w fun e w' => e = .returned (.string ⟨(recB k zs).toArray⟩) ∧ Below w.heap.size w w' := by
  obtain ⟨k1, k2, hn, ha⟩ := recR_parts hr
  have R : Hid (∀ w1, Below w.heap.size w w1 → Calls Tryd.prog 33 #[RV k sl zs.length cap] w1 fun e w' => e = .returned (.bool true) ∧ Below w1.heap.size w1 w') := fun w1 hb => by
    have := srr_any k sl cap zs w1 (by unfold maxLen; omega) (hz.below hb); rwa [hr] at this
  have NB : Hid (∀ (m : Nat) w1, m < 9223372036854775808 → Calls Tryd.prog 17 #[.int .i64 m] w1 fun e w' => e = .returned (.string ⟨(numB m).toArray⟩) ∧ Below w1.heap.size w1 w') := fun m w1 hm => by
    have := snb_any m (by omega) w1
    rwa [numT, if_neg (by omega), Int.toNat_natCast] at this
  have HZ := Lib.hid hz
  have HA := Lib.hid ha
  have LB := body_len hr
  have LL := lenB_len hr
  clear hz
  generalize hN : zs.length = n at *
  go_enter Tryd.func15, Tryd.ntmps15
  go_wp2_with fail
  refine (R.out _ (bA0 _ _)).mono ?_
  rintro e w1 ⟨rfl, b1⟩
  have R1 := Lib.hid ((RAt.new 28 w k sl n cap).below b1)
  have B1 : Hid (Below w.heap.size w w1) := bT (bA0 _ _) b1
  obtain ⟨c0, c1⟩ := R1.out.cells
  clear b1 R
  have hn1 : (numB k).length ≤ 1 := (numB_len k 0 (by omega)).2
  have hn2 : (numB n).length ≤ 1 := (numB_len n 0 (by omega)).2
  have hcat : ¬ (numB k).length + (numB n).length > 9223372036854775807 := by omega
  have S1 := Lib.hid (show _ ∧ _ ∧ _ ∧ _ from ⟨c0, c1, R1.out.lt, B1.out⟩)
  have hk : k < 9223372036854775808 := by omega
  have hn' : n < 9223372036854775808 := by omega
  clear c0 c1 R1 B1
  go_wp2_with fail
  go_region_held3 (fun w' => w'.cell? ⟨w.heap.size, 0, none⟩ = some (.int .i64 k) ∧ w'.cell? ⟨w.heap.size, 1, none⟩ = some (.slice sl n cap) ∧ w.heap.size < w'.heap.size ∧ Below w.heap.size w w') (first | exact keepR (by assumption) b5 | exact keepR S1.out ((Below.refl _ _).drew)) (first | (go_at_call 17; refine (NB.out _ _ (by assumption)).mono ?_; rintro e w5 ⟨rfl, b5⟩))
  rename_i hHeld
  have S5 := Lib.hid hHeld
  clear hHeld b5 S1 hcat
  rw [ba_app]
  generalize hP : numB k ++ numB n = P at *
  have hPl : P.length ≤ 2 := by rw [← hP]; simp; omega
  have HP := Lib.hid hP
  clear hP
  have HN := Lib.hid hN
  clear hN ha hr hn1 hn2
  go_wp2
  go_loopw [3, 4] (fun t i wr => ∃ j : Nat, i = .int .i64 j ∧ t = .string ⟨(P ++ numsB (zs.take j)).toArray⟩ ∧ j ≤ n ∧ Hid (wr.cell? ⟨w.heap.size, 0, none⟩ = some (.int .i64 k) ∧ wr.cell? ⟨w.heap.size, 1, none⟩ = some (.slice sl n cap) ∧ w.heap.size < wr.heap.size ∧ Below w.heap.size w wr)) (fun _ i _ => n - (intOf i).toNat)
  case atStart => exact ⟨0, rfl, by simp [numsB], Nat.zero_le _, S5⟩
  case round =>
    obtain ⟨j, rfl, rfl, hj, H1⟩ := hrel
    obtain ⟨c0, c1, hlt, -⟩ := H1.out
    have hj0 : (0 : Int) ≤ (j : Int) := by omega
    by_cases h1 : j < n
    · have h1' : (j : Int) < (n : Int) := by omega
      have hl : j < zs.length := by rw [HN.out]; exact h1
      obtain ⟨c, o, eS, hc⟩ := (HZ.out.below H1.out.2.2.2).at j hl
      subst eS
      have hall : (zs.take j).all isN = true := by
        rw [List.all_eq_true]; intro x hx; exact List.all_eq_true.1 HA.out x (List.mem_of_mem_take hx)
      have hz : isN (zs.getD j 0) = true := by
        have h3 : zs.getD j 0 = zs[j] := by simp [hl]
        rw [h3]; exact List.all_eq_true.1 HA.out _ (List.getElem_mem hl)
      have hlt2 := signN_lt hz
      have E : Hid (P ++ numsB (zs.take (j + 1)) = P ++ numsB (zs.take j) ++ numB (signN (zs.getD j 0))) := by show _ = _; rw [numsB_take zs j hl, List.append_assoc]
      have l1 : (P ++ numsB (zs.take j)).length ≤ 482 := by
        have := numsB_len (zs.take j) hall
        have : (zs.take j).length ≤ 60 := by simp; omega
        simp only [List.length_append]; omega
      have l2 := (numB_len (signN (zs.getD j 0)) 8 (by omega)).2
      have NB1 : Hid (∀ w1, Calls Tryd.prog 17 #[.int .i64 ((signN (zs.getD j 0) : Nat) : Int)] w1 fun e w' => e = .returned (.string ⟨(numB (signN (zs.getD j 0))).toArray⟩) ∧ Below w1.heap.size w1 w') := fun w1 => NB.out _ w1 (by omega)
      simp only [isN, decide_eq_true_eq] at hz
      clear hall hl
      generalize zs.getD j 0 = z at *
      generalize P ++ numsB (zs.take j) = Q at *
      by_cases h0 : z < 0
      · have e0 : ((signN z : Nat) : Int) = -2 * z - 1 := by unfold signN; rw [if_pos h0]; omega
        rw [e0] at NB1
        clear e0 hlt2
        generalize numB (signN z) = R at *
        have hcat : ¬ Q.length + R.length > 9223372036854775807 := by omega
        go_wp2_with fail
        refine (NB1.out _).mono ?_
        rintro e w6 ⟨rfl, b6⟩
        have S6 := Lib.hid (keepR H1.out b6)
        clear b6
        go_wp2
        rw [ba_app]
        go_roundw
        case rel => exact ⟨j + 1, by go_num, by rw [E.out], by omega, S6⟩
        case measure => simp [intOf]; omega
      · have e0 : ((signN z : Nat) : Int) = 2 * z := by unfold signN; rw [if_neg h0]; omega
        rw [e0] at NB1
        clear e0 hlt2
        generalize numB (signN z) = R at *
        have hcat : ¬ Q.length + R.length > 9223372036854775807 := by omega
        go_wp2_with fail
        refine (NB1.out _).mono ?_
        rintro e w6 ⟨rfl, b6⟩
        have S6 := Lib.hid (keepR H1.out b6)
        clear b6
        go_wp2
        rw [ba_app]
        go_roundw
        case rel => exact ⟨j + 1, by go_num, by rw [E.out], by omega, S6⟩
        case measure => simp [intOf]; omega
    · have h1' : ¬ (j : Int) < (n : Int) := by omega
      have E : Hid (P ++ numsB (zs.take j) = bodyB k zs) := by
        show _ = _
        rw [List.take_of_length_le (by rw [HN.out]; omega), ← HP.out, bodyB, HN.out, Int.toNat_natCast]
      have HR : Hid (recB k zs = [82] ++ lenB (bodyB k zs) ++ fourB (sumL (lenB (bodyB k zs)))) := rfl
      rw [E.out]
      have B1 := Lib.hid H1.out.2.2.2
      have HL : (bodyB k zs).length ≤ 482 := LB.2
      have NB1 : Hid (∀ w1, Calls Tryd.prog 17 #[.int .i64 (((bodyB k zs).length : Nat) : Int)] w1 fun e w' => e = .returned (.string ⟨(numB (bodyB k zs).length).toArray⟩) ∧ Below w1.heap.size w1 w') := fun w1 => NB.out _ w1 (by omega)
      clear E LB
      generalize bodyB k zs = l at *
      have hnl : (numB l.length).length ≤ 2 := (numB_len l.length 1 (by omega)).2
      have hcat : ¬ (numB l.length).length + l.length > 9223372036854775807 := by omega
      go_wp2_with fail
      refine (NB1.out _).mono ?_
      rintro e w6 ⟨rfl, b6⟩
      have B6 := Lib.hid (bT B1.out b6)
      clear b6 B1 NB1 H1 c0 c1 hlt
      have SS : Hid (∀ w1, Calls Tryd.prog 42 #[.string ⟨(lenB l).toArray⟩] w1 fun e w' => e = .returned (.int .i64 (sumL (lenB l))) ∧ w' = w1) :=
        fun w1 => ssum_any ⟨(lenB l).toArray⟩ (by show (lenB l).toArray.size ≤ _; unfold maxLen; simp; omega) w1
      have SF : Hid (∀ w1, Calls Tryd.prog 41 #[.int .i64 (sumL (lenB l))] w1 fun e w' => e = .returned (.string ⟨(fourB (sumL (lenB l))).toArray⟩) ∧ Below w1.heap.size w1 w') :=
        fun w1 => sfour_any _ (by have := sumL_lt (lenB l); omega) w1
      have hf : (fourB (sumL (lenB l))).length = 4 := rfl
      have hll : (lenB l).length ≤ 484 := LL.2
      clear LL
      go_wp2_with fail
      rw [ba_app, show numB l.length ++ l = lenB l from rfl]
      clear hcat hnl HL
      generalize sumL (lenB l) = x at *
      generalize lenB l = t at *
      refine (SS.out _).mono ?_
      rintro e w7 ⟨rfl, rfl⟩
      clear SS
      go_wp2_with fail
      refine (SF.out _).mono ?_
      rintro e w8 ⟨rfl, b8⟩
      have B8 := Lib.hid (bT B6.out b8)
      clear b8 B6 SF
      generalize fourB x = f at *
      have h1 : ¬ 1 + t.length > 9223372036854775807 := by omega
      have h2 : ¬ 1 + t.length + f.length > 9223372036854775807 := by omega
      go_wp2
      go_ret
      refine ⟨?_, B8.out⟩
      rw [HR.out]
      show Ending.returned (.string ((⟨[82].toArray⟩ : ByteArray) ++ ⟨t.toArray⟩ ++ ⟨f.toArray⟩)) = _
      rw [ba_app, ba_app]

theorem srb_any (k : Int) (sl : Option Addr) (cap : Nat) (zs : List Int) (w : World) (hn : zs.length ≤ maxLen) (hz : Ints w sl zs) :
    Calls Tryd.prog 15 #[RV k sl zs.length cap] w fun e w' => e = .returned (.string ⟨(recT k zs).toArray⟩) ∧ Below w.heap.size w w' := by
  unfold recT
  cases hr : recR k zs
  · exact srb_no k sl cap zs w hn hz hr
  · obtain ⟨m, rfl⟩ := Int.eq_ofNat_of_zero_le (show 0 ≤ k by have := recR_parts hr; omega)
    exact srb_yes m sl cap zs w hz hr

end Go.Proofs.YtnkdkbchendpmaaDoor
