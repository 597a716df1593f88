/-
  A RECORD's BYTES, AS THE MODEL TELLS THEM.
  A NUMBER READ, AS THE MODEL DOES IT.
  A RECORD READ, AS THE MODEL DOES IT: the thinking.
  A RECORD READ, AS THE MODEL DOES IT.
-/
import Derived.Test.YtmffoannknkjkaaDoorBa
import Derived.Test.YtmffoannknkjkaaDoorRac
import Derived.Deep.RegionHeld3
import Derived.Deep.RegionWith
import Derived.Deep.RegionHeldLaw
import Derived.BigRegion
import Derived.Deep.CutRange
import Derived.Deep.DeepCutAuto
import Derived.Deep.LoopGhost
import Derived.BigQuiet
namespace Go.Proofs.YtmffoannknkjkaaDoor
open Go.RowKit
set_option linter.unusedVariables false

set_option maxHeartbeats 1000000 in
set_option maxRecDepth 100000 in
theorem sfour_any (x : Nat) (hx : x < 4294967296) (w : World) :
    Calls Tryd.prog 37 #[.int .i64 x] w fun e w' => e = .returned (.string ⟨(fourB x).toArray⟩) ∧ Below w.heap.size w w' := by
  have hcv : Sem.run Tryd.prog (convert 44 9 (.slice (some ⟨w.heap.size, 0, none⟩) 4 4)) (w.alloc (.cells #[.int .u8 ((x : Int) / 16777216), .int .u8 ((x : Int) / 65536 % 256), .int .u8 ((x : Int) / 256 % 256), .int .u8 ((x : Int) % 256)] 5)) = .ok (.string ⟨(fourB x).toArray⟩) (w.alloc (.cells #[.int .u8 ((x : Int) / 16777216), .int .u8 ((x : Int) / 65536 % 256), .int .u8 ((x : Int) / 256 % 256), .int .u8 ((x : Int) % 256)] 5)) := by
    have e : (#[.int .u8 ((x : Int) / 16777216), .int .u8 ((x : Int) / 65536 % 256), .int .u8 ((x : Int) / 256 % 256), .int .u8 ((x : Int) % 256)] : Array Value) = (Lib.byteCells (fourB x)).toArray := by
      have u (m : Nat) (h : m < 256) : (m.toUInt8).toNat = m := by simp; omega
      simp only [Lib.byteCells, fourB, List.map_cons, List.map_nil, u _ (Nat.mod_lt _ (by decide : 256 > 0))]
      rw [show ((x / 16777216 % 256 : Nat) : Int) = (x : Int) / 16777216 by omega, show ((x / 65536 % 256 : Nat) : Int) = (x : Int) / 65536 % 256 by omega, show ((x / 256 % 256 : Nat) : Int) = (x : Int) / 256 % 256 by omega, show ((x % 256 : Nat) : Int) = (x : Int) % 256 by omega]
    rw [e]
    refine run_convert_bytes_back (P := Tryd.prog) _ 44 9 5 ⟨w.heap.size, 0, none⟩ 4 (fourB x) Tryd.underlying44 Tryd.underlying5 Tryd.underlying9 (fun j hj => ?_)
    have hb : (w.alloc (.cells (Lib.byteCells (fourB x)).toArray 5)).heap[w.heap.size]? = some (.cells (Lib.byteCells (fourB x)).toArray 5 (0, 0)) := by show (w.heap.push _)[w.heap.size]? = _; simp
    have ha : (⟨w.heap.size, 0, none⟩ : Addr).add j = ⟨w.heap.size, j, none⟩ := by
      unfold Addr.add
      by_cases h : j = 0 <;> simp [h]
    rw [ha]
    simp only [World.cell?, hb]
    simp [Lib.byteCells, hj]
  go_enter Tryd.func37, Tryd.ntmps37
  go_wp2
  go_ret
  exact ⟨rfl, bA0 _ _⟩

theorem srb_no (k : Int) (sl : Option Addr) (cap : Nat) (zs : List Int) (w : World) (hn : zs.length ≤ maxLen) (hz : Ints w sl zs) (hr : recR k zs = false) :
    Calls Tryd.prog 39 #[RV k sl zs.length cap] w fun e w' => e = .returned (.string ⟨#[]⟩) ∧ Below w.heap.size w w' := by
  have R : Hid (∀ w1, Below w.heap.size w w1 → Calls Tryd.prog 46 #[RV k sl zs.length cap] w1 fun e w' => e = .returned (.bool false) ∧ Below w1.heap.size w1 w') := fun w1 hb => by
    have := srr_any k sl cap zs w1 hn (hz.below hb); rwa [hr] at this
  clear hz hr
  generalize zs.length = n at *
  go_enter Tryd.func39, Tryd.ntmps39
  go_wp2_with fail
  refine (R.out _ (bA0 _ _)).mono ?_
  rintro e w1 ⟨rfl, b1⟩
  go_wp2
  go_ret
  exact ⟨rfl, bT (bA0 _ _) b1⟩

/-- What stays while the model's texts are put together. -/
theorem keepR {w0 w w' : World} {b : Nat} {k : Int} {sl : Option Addr} {n cap : Nat} (h : w.cell? ⟨b, 0, none⟩ = some (.int .i64 k) ∧ w.cell? ⟨b, 1, none⟩ = some (.slice sl n cap) ∧ b < w.heap.size ∧ Below w0.heap.size w0 w) (hb : Below w.heap.size w w') :
    w'.cell? ⟨b, 0, none⟩ = some (.int .i64 k) ∧ w'.cell? ⟨b, 1, none⟩ = some (.slice sl n cap) ∧ b < w'.heap.size ∧ Below w0.heap.size w0 w' :=
  ⟨(hb.cell h.2.2.1).trans h.1, (hb.cell h.2.2.1).trans h.2.1, Nat.lt_of_lt_of_le h.2.2.1 hb.size, bT h.2.2.2 hb⟩

set_option maxHeartbeats 1000000 in
theorem srb_yes (k : Nat) (sl : Option Addr) (cap : Nat) (zs : List Int) (w : World) (hz : Ints w sl zs) (hr : recR k zs = true) :
    Calls Tryd.prog 39 #[RV k sl zs.length cap] w fun e w' => e = .returned (.string ⟨(recB k zs).toArray⟩) ∧ Below w.heap.size w w' := by
  obtain ⟨k1, k2, hn, ha⟩ := recR_parts hr
  have R : Hid (∀ w1, Below w.heap.size w w1 → Calls Tryd.prog 46 #[RV k sl zs.length cap] w1 fun e w' => e = .returned (.bool true) ∧ Below w1.heap.size w1 w') := fun w1 hb => by
    have := srr_any k sl cap zs w1 (by unfold maxLen; omega) (hz.below hb); rwa [hr] at this
  have NB : Hid (∀ (m : Nat) w1, m < 9223372036854775808 → Calls Tryd.prog 45 #[.int .i64 m] w1 fun e w' => e = .returned (.string ⟨(numB m).toArray⟩) ∧ Below w1.heap.size w1 w') := fun m w1 hm => by
    have := snb_any m (by omega) w1
    rwa [numT, if_neg (by omega), Int.toNat_natCast] at this
  have HZ := Lib.hid hz
  have HA := Lib.hid ha
  have LB := body_len hr
  have LL := lenB_len hr
  clear hz
  generalize hN : zs.length = n at *
  go_enter Tryd.func39, Tryd.ntmps39
  go_wp2_with fail
  refine (R.out _ (bA0 _ _)).mono ?_
  rintro e w1 ⟨rfl, b1⟩
  have R1 := Lib.hid ((RAt.new 42 w k sl n cap).below b1)
  have B1 : Hid (Below w.heap.size w w1) := bT (bA0 _ _) b1
  obtain ⟨c0, c1⟩ := R1.out.cells
  clear b1 R
  have hn1 : (numB k).length ≤ 1 := (numB_len k 0 (by omega)).2
  have hn2 : (numB n).length ≤ 1 := (numB_len n 0 (by omega)).2
  have hcat : ¬ (numB k).length + (numB n).length > 9223372036854775807 := by omega
  have S1 := Lib.hid (show _ ∧ _ ∧ _ ∧ _ from ⟨c0, c1, R1.out.lt, B1.out⟩)
  have hk : k < 9223372036854775808 := by omega
  have hn' : n < 9223372036854775808 := by omega
  clear c0 c1 R1 B1
  go_wp2_with fail
  go_region_held3 (fun w' => w'.cell? ⟨w.heap.size, 0, none⟩ = some (.int .i64 k) ∧ w'.cell? ⟨w.heap.size, 1, none⟩ = some (.slice sl n cap) ∧ w.heap.size < w'.heap.size ∧ Below w.heap.size w w') (first | exact keepR (by assumption) b5 | exact keepR S1.out ((Below.refl _ _).drew)) (first | (go_at_call 45; refine (NB.out _ _ (by assumption)).mono ?_; rintro e w5 ⟨rfl, b5⟩))
  rename_i hHeld
  have S5 := Lib.hid hHeld
  clear hHeld b5 S1 hcat
  rw [ba_app]
  generalize hP : numB k ++ numB n = P at *
  have hPl : P.length ≤ 2 := by rw [← hP]; simp; omega
  have HP := Lib.hid hP
  clear hP
  have HN := Lib.hid hN
  clear hN ha hr hn1 hn2
  go_wp2
  go_loopw [3, 4] (fun t i wr => ∃ j : Nat, i = .int .i64 j ∧ t = .string ⟨(P ++ numsB (zs.take j)).toArray⟩ ∧ j ≤ n ∧ Hid (wr.cell? ⟨w.heap.size, 0, none⟩ = some (.int .i64 k) ∧ wr.cell? ⟨w.heap.size, 1, none⟩ = some (.slice sl n cap) ∧ w.heap.size < wr.heap.size ∧ Below w.heap.size w wr)) (fun _ i _ => n - (intOf i).toNat)
  case atStart => exact ⟨0, rfl, by simp [numsB], Nat.zero_le _, S5⟩
  case round =>
    obtain ⟨j, rfl, rfl, hj, H1⟩ := hrel
    obtain ⟨c0, c1, hlt, -⟩ := H1.out
    have hj0 : (0 : Int) ≤ (j : Int) := by omega
    by_cases h1 : j < n
    · have h1' : (j : Int) < (n : Int) := by omega
      have hl : j < zs.length := by rw [HN.out]; exact h1
      obtain ⟨c, o, eS, hc⟩ := (HZ.out.below H1.out.2.2.2).at j hl
      subst eS
      have hall : (zs.take j).all isN = true := by
        rw [List.all_eq_true]; intro x hx; exact List.all_eq_true.1 HA.out x (List.mem_of_mem_take hx)
      have hz : isN (zs.getD j 0) = true := by
        have h3 : zs.getD j 0 = zs[j] := by simp [hl]
        rw [h3]; exact List.all_eq_true.1 HA.out _ (List.getElem_mem hl)
      have hlt2 := signN_lt hz
      have E : Hid (P ++ numsB (zs.take (j + 1)) = P ++ numsB (zs.take j) ++ numB (signN (zs.getD j 0))) := by show _ = _; rw [numsB_take zs j hl, List.append_assoc]
      have l1 : (P ++ numsB (zs.take j)).length ≤ 482 := by
        have := numsB_len (zs.take j) hall
        have : (zs.take j).length ≤ 60 := by simp; omega
        simp only [List.length_append]; omega
      have l2 := (numB_len (signN (zs.getD j 0)) 8 (by omega)).2
      have NB1 : Hid (∀ w1, Calls Tryd.prog 45 #[.int .i64 ((signN (zs.getD j 0) : Nat) : Int)] w1 fun e w' => e = .returned (.string ⟨(numB (signN (zs.getD j 0))).toArray⟩) ∧ Below w1.heap.size w1 w') := fun w1 => NB.out _ w1 (by omega)
      simp only [isN, decide_eq_true_eq] at hz
      clear hall hl
      generalize zs.getD j 0 = z at *
      generalize P ++ numsB (zs.take j) = Q at *
      by_cases h0 : z < 0
      · have e0 : ((signN z : Nat) : Int) = -2 * z - 1 := by unfold signN; rw [if_pos h0]; omega
        rw [e0] at NB1
        clear e0 hlt2
        generalize numB (signN z) = R at *
        have hcat : ¬ Q.length + R.length > 9223372036854775807 := by omega
        go_wp2_with fail
        refine (NB1.out _).mono ?_
        rintro e w6 ⟨rfl, b6⟩
        have S6 := Lib.hid (keepR H1.out b6)
        clear b6
        go_wp2
        rw [ba_app]
        go_roundw
        case rel => exact ⟨j + 1, by go_num, by rw [E.out], by omega, S6⟩
        case measure => simp [intOf]; omega
      · have e0 : ((signN z : Nat) : Int) = 2 * z := by unfold signN; rw [if_neg h0]; omega
        rw [e0] at NB1
        clear e0 hlt2
        generalize numB (signN z) = R at *
        have hcat : ¬ Q.length + R.length > 9223372036854775807 := by omega
        go_wp2_with fail
        refine (NB1.out _).mono ?_
        rintro e w6 ⟨rfl, b6⟩
        have S6 := Lib.hid (keepR H1.out b6)
        clear b6
        go_wp2
        rw [ba_app]
        go_roundw
        case rel => exact ⟨j + 1, by go_num, by rw [E.out], by omega, S6⟩
        case measure => simp [intOf]; omega
    · have h1' : ¬ (j : Int) < (n : Int) := by omega
      have E : Hid (P ++ numsB (zs.take j) = bodyB k zs) := by
        show _ = _
        rw [List.take_of_length_le (by rw [HN.out]; omega), ← HP.out, bodyB, HN.out, Int.toNat_natCast]
      have HR : Hid (recB k zs = [82] ++ lenB (bodyB k zs) ++ fourB (sumL (lenB (bodyB k zs)))) := rfl
      rw [E.out]
      have B1 := Lib.hid H1.out.2.2.2
      have HL : (bodyB k zs).length ≤ 482 := LB.2
      have NB1 : Hid (∀ w1, Calls Tryd.prog 45 #[.int .i64 (((bodyB k zs).length : Nat) : Int)] w1 fun e w' => e = .returned (.string ⟨(numB (bodyB k zs).length).toArray⟩) ∧ Below w1.heap.size w1 w') := fun w1 => NB.out _ w1 (by omega)
      clear E LB
      generalize bodyB k zs = l at *
      have hnl : (numB l.length).length ≤ 2 := (numB_len l.length 1 (by omega)).2
      have hcat : ¬ (numB l.length).length + l.length > 9223372036854775807 := by omega
      go_wp2_with fail
      refine (NB1.out _).mono ?_
      rintro e w6 ⟨rfl, b6⟩
      have B6 := Lib.hid (bT B1.out b6)
      clear b6 B1 NB1 H1 c0 c1 hlt
      have SS : Hid (∀ w1, Calls Tryd.prog 38 #[.string ⟨(lenB l).toArray⟩] w1 fun e w' => e = .returned (.int .i64 (sumL (lenB l))) ∧ w' = w1) :=
        fun w1 => ssum_any ⟨(lenB l).toArray⟩ (by show (lenB l).toArray.size ≤ _; unfold maxLen; simp; omega) w1
      have SF : Hid (∀ w1, Calls Tryd.prog 37 #[.int .i64 (sumL (lenB l))] w1 fun e w' => e = .returned (.string ⟨(fourB (sumL (lenB l))).toArray⟩) ∧ Below w1.heap.size w1 w') :=
        fun w1 => sfour_any _ (by have := sumL_lt (lenB l); omega) w1
      have hf : (fourB (sumL (lenB l))).length = 4 := rfl
      have hll : (lenB l).length ≤ 484 := LL.2
      clear LL
      go_wp2_with fail
      rw [ba_app, show numB l.length ++ l = lenB l from rfl]
      clear hcat hnl HL
      generalize sumL (lenB l) = x at *
      generalize lenB l = t at *
      refine (SS.out _).mono ?_
      rintro e w7 ⟨rfl, rfl⟩
      clear SS
      go_wp2_with fail
      refine (SF.out _).mono ?_
      rintro e w8 ⟨rfl, b8⟩
      have B8 := Lib.hid (bT B6.out b8)
      clear b8 B6 SF
      generalize fourB x = f at *
      have h1 : ¬ 1 + t.length > 9223372036854775807 := by omega
      have h2 : ¬ 1 + t.length + f.length > 9223372036854775807 := by omega
      go_wp2
      go_ret
      refine ⟨?_, B8.out⟩
      rw [HR.out]
      show Ending.returned (.string ((⟨[82].toArray⟩ : ByteArray) ++ ⟨t.toArray⟩ ++ ⟨f.toArray⟩)) = _
      rw [ba_app, ba_app]

theorem srb_any (k : Int) (sl : Option Addr) (cap : Nat) (zs : List Int) (w : World) (hn : zs.length ≤ maxLen) (hz : Ints w sl zs) :
    Calls Tryd.prog 39 #[RV k sl zs.length cap] w fun e w' => e = .returned (.string ⟨(recT k zs).toArray⟩) ∧ Below w.heap.size w w' := by
  unfold recT
  cases hr : recR k zs
  · exact srb_no k sl cap zs w hn hz hr
  · obtain ⟨m, rfl⟩ := Int.eq_ofNat_of_zero_le (show 0 ≤ k by have := recR_parts hr; omega)
    exact srb_yes m sl cap zs w hz hr

end Go.Proofs.YtmffoannknkjkaaDoor
namespace Go.Proofs.YtmffoannknkjkaaDoor
open Go.RowKit
set_option linter.unusedVariables false

/-- The model's reader in block b. -/
def NAt (w : World) (b : Nat) (t : ByteArray) (bad : Bool) : Prop := w.heap[b]? = some (.cells #[.string t, .bool bad] 57)
theorem NAt.cells {w : World} {b : Nat} {t : ByteArray} {bad : Bool} (h : NAt w b t bad) : w.cell? ⟨b, 0, none⟩ = some (.string t) ∧ w.cell? ⟨b, 1, none⟩ = some (.bool bad) ∧ (∀ o, w.frozen? ⟨b, o, none⟩ = false) ∧ b < w.heap.size := by
  have hl := (Array.getElem?_eq_some_iff.1 h).1
  unfold NAt at h
  refine ⟨?_, ?_, fun o => ?_, hl⟩
  · simp [World.cell?, h]
  · simp [World.cell?, h]
  · simp [World.frozen?, h]
theorem NAt.below {w w' : World} {b : Nat} {t : ByteArray} {bad : Bool} (h : NAt w b t bad) (hb : Below w.heap.size w w') : NAt w' b t bad := (hb.block b (Array.getElem?_eq_some_iff.1 h).1).trans h
theorem NAt.set1 {w : World} {b : Nat} {t : ByteArray} {bad : Bool} (h : NAt w b t bad) (u : Bool) : NAt (w.setCell ⟨b, 1, none⟩ (.bool u)) b t u := heap_setCell_same w b 1 _ 57 _ h
theorem NAt.set0 {w : World} {b : Nat} {t : ByteArray} {bad : Bool} (h : NAt w b t bad) (u : ByteArray) : NAt (w.setCell ⟨b, 0, none⟩ (.string u)) b u bad := heap_setCell_same w b 0 _ 57 _ h
/-- What stands in the reader's second cell. -/
def bdAt (b : Nat) (w : World) : Bool := match w.cell? ⟨b, 1, none⟩ with | some (.bool x) => x | _ => false
theorem NAt.bd {w : World} {b : Nat} {t : ByteArray} {bad : Bool} (h : NAt w b t bad) : bdAt b w = bad := by unfold bdAt; rw [h.cells.2.1]
theorem NAt.S {w : World} {b : Nat} {t : ByteArray} {bad : Bool} (h : NAt w b t bad) : b < w.heap.size ∧ w.cell? ⟨b, 0, none⟩ = some (.string t) ∧ w.cell? ⟨b, 1, none⟩ = some (.bool (bdAt b w)) := ⟨h.cells.2.2.2, h.cells.1, by rw [h.bd]; exact h.cells.2.1⟩
theorem NAt.drew {w : World} {b : Nat} {t : ByteArray} {bad : Bool} (h : NAt w b t bad) : NAt w.drew b t bad := h
theorem Only.set {b : Nat} {u v : World} (h : Only b u v) (o : Nat) (x : Value) : Only b u (v.setCell ⟨b, o, none⟩ x) := h.setCell o x
/-- What num answers. -/
def NumPost (b : Nat) (t : ByteArray) (bad : Bool) (w : World) (e : Ending) (w' : World) : Prop :=
  ∃ (x : Nat) (t' : ByteArray) (bad' : Bool), e = .returned (.int .i64 x) ∧ x < 72057594037927936 ∧ NAt w' b t' bad' ∧ t'.size ≤ t.size ∧
    (∀ v q, rdN 8 t.data.toList = some (v, q) → x = v ∧ t'.data.toList = q ∧ bad' = bad) ∧ (rdN 8 t.data.toList = none → bad' = true) ∧ (bad = true → bad' = true) ∧ Only b w w'

theorem un_add (a b u j : Nat) (hj : j ≤ 7) (hu : u = 128 ^ j) (ha : a < u) : wrap64 ((a : Int) + wrap64 ((b : Int) % 128 * (u : Int))) = ((a + u * (b % 128) : Nat) : Int) ∧ a + u * (b % 128) < u * 128 ∧ u ≤ 562949953421312 := by
  have hp : 128 ^ j ≤ 128 ^ 7 := Nat.pow_le_pow_right (by decide) hj
  have hm : b % 128 ≤ 127 := by omega
  have hq : u * (b % 128) ≤ u * 127 := Nat.mul_le_mul_left _ hm
  rw [show (b : Int) % 128 * (u : Int) = ((u * (b % 128) : Nat) : Int) by push_cast; rw [Int.mul_comm]]
  generalize u * (b % 128) = m at *
  rw [← hu] at hp
  rw [wrS (m : Int) (by omega) (by omega), wrS _ (by omega) (by omega)]
  refine ⟨by omega, by omega, by omega⟩

set_option maxRecDepth 100000 in
set_option maxHeartbeats 8000000 in
theorem num_s (b : Nat) (t : ByteArray) (bad : Bool) (w : World) (ht : t.size ≤ 20000) (h : NAt w b t bad) :
    Calls Tryd.prog 36 #[.pointer (some ⟨b, 0, none⟩)] w fun e w' => NumPost b t bad w e w' := by
  have H := Lib.hid h
  obtain ⟨c0, c1, cf, cl⟩ := h.cells
  clear h
  go_enter Tryd.func36, Tryd.ntmps36
  go_wp2
  have hlen : t.data.toList.length = t.size := by simp
  go_loop [3, 4, 5] (fun n u i => ∃ j a U : Nat, i = .int .i64 j ∧ n = .int .i64 a ∧ u = .int .i64 U ∧ j ≤ 8 ∧ j ≤ t.size ∧ Hid (U = 128 ^ j) ∧ a < U ∧ U ≤ 72057594037927936 ∧ Hid (rdN 8 t.data.toList = fin j a (rdN (8 - j) (t.data.toList.drop j)))) (fun _ _ i => 8 - (intOf i).toNat)
  case atStart => exact ⟨0, 0, 1, rfl, rfl, rfl, by omega, Nat.zero_le _, rfl, by decide, by decide, (by show _ = _; rw [fin_zero]; rfl)⟩
  case round =>
    obtain ⟨j, a, U, rfl, rfl, rfl, hj8, hjt, HU, haU, hU8, HF⟩ := hrel
    have hj0 : (0 : Int) ≤ (j : Int) := by omega
    by_cases h1 : j < t.size ∧ j < 8
    · obtain ⟨h1, h2⟩ := h1
      have h1' : (j : Int) < (t.size : Int) := by omega
      have h2' : (j : Int) < 8 := by omega
      obtain ⟨eS, lS, uS⟩ := un_add a (t[j]'h1).toNat U j (by omega) HU.out haU
      have HS := Lib.hid eS
      have hb : ((t[j]'h1).toNat : Int) < 256 := by have := (t[j]'h1).toNat_lt; omega
      have hb0 : (0 : Int) ≤ ((t[j]'h1).toNat : Int) := by omega
      have ED := drop_cons t j h1
      have e8 : 8 - j = (7 - j) + 1 := by omega
      have uS' : (U : Int) ≤ 562949953421312 := by omega
      clear eS
      by_cases hc : (t[j]'h1).toNat < 128
      · have hc' : ((t[j]'h1).toNat : Int) < 128 := by omega
        have R : rdN 8 t.data.toList = fin j a (some ((t[j]'h1).toNat, t.data.toList.drop (j + 1))) := by rw [HF.out, ED, e8, rdN_byte _ _ _ hc]
        have et : (t.extract 0 (j + 1)).data.toList = t.data.toList.take (j + 1) := by rw [Lib.extract_data]; simp
        have eq : (t.extract (j + 1) t.size).data.toList = t.data.toList.drop (j + 1) := by
          rw [Lib.extract_data]; exact List.take_of_length_le (by simp)
        have hs2 : Hid ((t.extract (j + 1) t.size).size ≤ t.size) := by show _ ≤ _; simp
        have hV : a + U * ((t[j]'h1).toNat % 128) < 72057594037927936 := by omega
        have hsome : ∀ v q, rdN 8 t.data.toList = some (v, q) → a + U * ((t[j]'h1).toNat % 128) = v ∧ (t.extract (j + 1) t.size).data.toList = q := by
          intro v q h
          rw [R, fin] at h
          split at h
          · cases h
          · simp only [Option.some.injEq, Prod.mk.injEq] at h
            rw [eq, HU.out, Nat.mod_eq_of_lt hc]; exact h
        have hiff : (⟨(numB (a + U * ((t[j]'h1).toNat % 128))).toArray⟩ : ByteArray) = t.extract 0 (j + 1) ↔ rdN 8 t.data.toList ≠ none := by
          have e1 : (⟨(numB (a + U * ((t[j]'h1).toNat % 128))).toArray⟩ : ByteArray) = t.extract 0 (j + 1) ↔ numB (a + U * ((t[j]'h1).toNat % 128)) = t.data.toList.take (j + 1) := by
            rw [← et]
            constructor
            · intro h; rw [← h]
            · intro h; apply Go.WideShapes.bytes_inj; simpa using h
          rw [e1]
          constructor
          · intro h hn
            have e2 : t.data.toList = numB (a + U * ((t[j]'h1).toNat % 128)) ++ t.data.toList.drop (j + 1) := by rw [h, List.take_append_drop]
            have := rdN_numB 8 (a + U * ((t[j]'h1).toNat % 128)) (t.data.toList.drop (j + 1)) (by rw [h]; simp; omega)
            rw [← e2, hn] at this; cases this
          · intro h
            cases hR : rdN 8 t.data.toList with
            | none => exact absurd hR h
            | some pr =>
              obtain ⟨v, q⟩ := pr
              obtain ⟨rfl, rfl⟩ := hsome v q hR
              have e3 := (rdN_some _ _ _ _ hR).1
              rw [eq] at e3
              have := congrArg (List.take (numB (a + U * ((t[j]'h1).toNat % 128))).length) e3
              rw [List.take_left] at this
              have hl2 := congrArg List.length e3
              rw [List.length_append, List.length_drop, hlen] at hl2
              rw [← this]; congr 1; omega
        have HSM := Lib.hid hsome
        have HIF := Lib.hid hiff
        clear hsome hiff et eq R ED e8 HF
        generalize hVV : a + U * ((t[j]'h1).toNat % 128) = V at *
        clear hVV
        have hj1 : (j : Int) + 1 ≤ (t.size : Int) := by omega
        have NB : Hid (∀ w1, Calls Tryd.prog 45 #[.int .i64 (V : Int)] w1 fun e w' => e = .returned (.string ⟨(numB V).toArray⟩) ∧ Below w1.heap.size w1 w') := fun w1 => by
          have := snb_any V (by omega) w1
          rwa [numT, if_neg (by omega), Int.toNat_natCast] at this
        have hw1 : IntKind.i64.wrap ((j : Int) + 1) = (j : Int) + 1 := by rw [IntKind.wrap_i64]; omega
        have hj2 : (0 : Int) ≤ (j : Int) + 1 := by omega
        cases bad
        · generalize (⟨(numB V).toArray⟩ : ByteArray) = nv at *
          have PQ : Hid (∀ (q : Bool) (W : World), (nv.toList == (t.extract 0 (j + 1)).toList) = q → NAt W b t (!q) → Only b w W → NumPost b t false w (.returned (.int .i64 (V : Int))) (W.setCell ⟨b, 0, none⟩ (.string (t.extract (j + 1) t.size)))) := fun q W hq hn ho => by
            refine ⟨V, t.extract (j + 1) t.size, !q, rfl, hV, hn.set0 _, hs2.out, fun v r hr => ?_, fun hr => ?_, (fun h => by cases h), ho.set 0 _⟩
            · obtain ⟨e1, e2⟩ := HSM.out v r hr
              refine ⟨e1, e2, ?_⟩
              have e3 := HIF.out.2 (by rw [hr]; simp)
              rw [e3] at hq
              have : q = true := by rw [← hq]; simp
              rw [this]; rfl
            · cases q
              · rfl
              · have e3 : nv = t.extract 0 (j + 1) := by
                  have := eq_of_beq hq
                  rw [Go.ByteArray.toList_eq, Go.ByteArray.toList_eq] at this
                  exact Go.WideShapes.bytes_inj this
                exact absurd hr (HIF.out.1 e3)
          cases hq : (nv.toList == (t.extract 0 (j + 1)).toList)
          · have HQ := Lib.hid hq
            have hnq : (nv.toList != (t.extract 0 (j + 1)).toList) = true := by rw [bne, hq]; rfl
            go_wp2_with fail
            rw [HS.out]
            go_cut [] (fun W => Hid (NAt W b t true) ∧ Hid (Only b w W))
            case first =>
              clear hb hb0 uS uS' lS haU hU8 hj8 hlen HU PQ HIF HSM hV hs2 HS HQ ht hjt
              go_region_with (first | (go_at_call 45; refine (NB.out _).mono ?_; rintro e w5 ⟨rfl, b5⟩; have N5 := Lib.hid (H.out.drew.below b5); obtain ⟨k0, k1, kf, kl⟩ := N5.out.cells; have O5 : Hid (Only b w w5) := (Only.refl b w).drew.trans (Only.of_below b5); have M5 := Lib.hid (N5.out.set1 true); clear b5))
              all_goals
                go_wp2_with fail
                go_meet
                exact ⟨M5, O5.out.set 1 _⟩
            case rest =>
              obtain ⟨N6, O6⟩ := hcut
              clear c0 c1 cf cl
              obtain ⟨k0, k1, kf, kl⟩ := N6.out.cells
              have P := Lib.hid (PQ.out false wc HQ.out N6.out O6.out)
              clear hq hnq PQ HQ
              go_wp2
              go_ret
              exact P.out
          · have HQ := Lib.hid hq
            have hnq : (nv.toList != (t.extract 0 (j + 1)).toList) = false := by rw [bne, hq]; rfl
            go_wp2_with fail
            rw [HS.out]
            go_cut [] (fun W => Hid (NAt W b t false) ∧ Hid (Only b w W))
            case first =>
              clear hb hb0 uS uS' lS haU hU8 hj8 hlen HU PQ HIF HSM hV hs2 HS HQ ht hjt
              go_region_held_law (fun w' => b < w'.heap.size ∧ w'.cell? ⟨b, 0, none⟩ = some (.string t) ∧ w'.cell? ⟨b, 1, none⟩ = some (.bool false)) (first | exact ⟨cl, c0, c1⟩ | exact ⟨kl, k0, k1⟩ | exact ⟨M5.out.cells.2.2.2, M5.out.cells.1, M5.out.cells.2.1⟩) (first | (go_at_call 45; refine (NB.out _).mono ?_; rintro e w5 ⟨rfl, b5⟩; have N5 := Lib.hid (H.out.drew.below b5); obtain ⟨k0, k1, kf, kl⟩ := N5.out.cells; have O5 : Hid (Only b w w5) := (Only.refl b w).drew.trans (Only.of_below b5); have M5 := Lib.hid (N5.out.set1 false); clear b5))
              all_goals
                go_wp2_with fail
                go_meet
                exact ⟨M5, O5.out.set 1 _⟩
            case rest =>
              obtain ⟨N6, O6⟩ := hcut
              clear c0 c1 cf cl
              obtain ⟨k0, k1, kf, kl⟩ := N6.out.cells
              have P := Lib.hid (PQ.out true wc HQ.out N6.out O6.out)
              clear hq hnq PQ HQ
              go_wp2
              go_ret
              exact P.out
        · have PB : Hid (∀ W, NAt W b t true → Only b w W → NumPost b t true w (.returned (.int .i64 (V : Int))) (W.setCell ⟨b, 0, none⟩ (.string (t.extract (j + 1) t.size)))) := fun W hn ho => by
            refine ⟨V, t.extract (j + 1) t.size, true, rfl, hV, hn.set0 _, hs2.out, fun v r hr => ?_, fun _ => rfl, fun _ => rfl, ho.set 0 _⟩
            obtain ⟨e1, e2⟩ := HSM.out v r hr
            exact ⟨e1, e2, rfl⟩
          go_wp2_with fail
          rw [HS.out]
          go_cut [] (fun W => Hid (NAt W b t true) ∧ Hid (Only b w W))
          case first =>
            have M5 := Lib.hid (H.out.set1 true)
            go_region
            all_goals
              go_wp2_with fail
              go_meet
              exact ⟨M5.out.drew, ((Only.refl b w).set 1 _).drew⟩
          case rest =>
            obtain ⟨N6, O6⟩ := hcut
            clear c0 c1 cf cl
            obtain ⟨k0, k1, kf, kl⟩ := N6.out.cells
            have P := Lib.hid (PB.out wc N6.out O6.out)
            clear PB
            go_wp2
            go_ret
            exact P.out
      · have hc' : ¬ ((t[j]'h1).toNat : Int) < 128 := by omega
        have HF2 : Hid (rdN 8 t.data.toList = fin (j + 1) (a + U * ((t[j]'h1).toNat % 128)) (rdN (8 - (j + 1)) (t.data.toList.drop (j + 1)))) := by
          show _ = _
          rw [HF.out, ED, e8, fin_step _ _ _ _ _ hc, show (t[j]'h1).toNat % 128 = (t[j]'h1).toNat - 128 by have := (t[j]'h1).toNat_lt; omega, show 8 - (j + 1) = 7 - j by omega, HU.out]
        have HU2 : Hid (U * 128 = 128 ^ (j + 1)) := by show _ = _; rw [HU.out, Nat.pow_succ]
        clear ED e8 HF
        go_wp2
        go_round
        case rel => exact ⟨j + 1, a + U * ((t[j]'h1).toNat % 128), U * 128, by go_num, by rw [HS.out], by go_num, by omega, by omega, HU2, lS, by omega, HF2⟩
        case measure => simp [intOf]; omega
    · have F : Hid (rdN 8 t.data.toList = none) := by
        show _ = _
        rw [HF.out]
        by_cases h8 : j = 8
        · rw [h8]; rfl
        · rw [List.drop_of_length_le (by omega)]
          cases 8 - j <;> rfl
      clear HF
      have N2 := Lib.hid (H.out.set1 true)
      have P : Hid (NumPost b t bad w (.returned (.int .i64 0)) (w.setCell ⟨b, 1, none⟩ (.bool true))) :=
        ⟨0, t, true, rfl, by decide, N2.out, Nat.le_refl _, (fun v q h => by rw [F.out] at h; cases h), fun _ => rfl, fun _ => rfl, (Only.of_below (Below.refl _ _)).set 1 _⟩
      by_cases h3 : j < t.size
      · have h3' : (j : Int) < (t.size : Int) := by omega
        have h4' : ¬ (j : Int) < 8 := by omega
        go_wp2
        go_ret
        exact P.out
      · have h3' : decide ((j : Int) < (t.size : Int)) = false := by simp; omega
        go_wp2
        go_ret
        exact P.out

end Go.Proofs.YtmffoannknkjkaaDoor
namespace Go.Proofs.YtmffoannknkjkaaDoor
open Go.RowKit
set_option linter.unusedVariables false

theorem IsBody.rd1 {l : List UInt8} {k : Int} {zs : List Int} (h : IsBody l k zs) : rdN 8 l = some (k.toNat, numB zs.length ++ numsB zs) := by
  obtain ⟨h1, h2, h3, h4⟩ := recR_parts h.1
  rw [h.2, bodyB, List.append_assoc]
  exact rdN_numB 8 _ _ (by have := (numB_len k.toNat 0 (by omega)).2; omega)
theorem IsBody.rd2 {l : List UInt8} {k : Int} {zs : List Int} (h : IsBody l k zs) : rdN 8 (numB zs.length ++ numsB zs) = some (zs.length, numsB zs) := by
  obtain ⟨h1, h2, h3, h4⟩ := recR_parts h.1
  exact rdN_numB 8 _ _ (by have := (numB_len zs.length 0 (by omega)).2; omega)
theorem IsBody.rd3 {l : List UInt8} {k : Int} {zs : List Int} (h : IsBody l k zs) (i : Nat) (hi : i < zs.length) : rdN 8 (numsB (zs.drop i)) = some (signN zs[i], numsB (zs.drop (i + 1))) := by
  obtain ⟨h1, h2, h3, h4⟩ := recR_parts h.1
  have hz : isN zs[i] = true := List.all_eq_true.1 h4 _ (List.getElem_mem hi)
  have hs := signN_lt hz
  have e : numsB (zs.drop i) = numB (signN zs[i]) ++ numsB (zs.drop (i + 1)) := by
    rw [List.drop_eq_getElem_cons hi]; simp only [numsB, List.map_cons, List.flatten_cons]
  rw [e]
  exact rdN_numB 8 _ _ (by have := (numB_len (signN zs[i]) 7 (by omega)).2; omega)
/-- What the model has read of a body: its kind, how many, the numbers so far, what is left, whether it is bad. -/
def MSt (l : List UInt8) (kind many : Nat) (ns : List Int) (t : List UInt8) (bad : Bool) : Prop :=
  ∀ k zs, IsBody l k zs → (kind : Int) = k ∧ many = zs.length ∧ ns = zs.take ns.length ∧ t = numsB (zs.drop ns.length) ∧ bad = false
theorem MSt.start {l t1 t2 : List UInt8} {x y : Nat} {b1 b2 : Bool} (h1 : ∀ v q, rdN 8 l = some (v, q) → x = v ∧ t1 = q ∧ b1 = false) (h2 : ∀ v q, rdN 8 t1 = some (v, q) → y = v ∧ t2 = q ∧ b2 = b1) : MSt l x y [] t2 b2 := by
  intro k zs h
  obtain ⟨rfl, rfl, rfl⟩ := h1 _ _ h.rd1
  obtain ⟨rfl, rfl, rfl⟩ := h2 _ _ h.rd2
  obtain ⟨r1, r2, r3, r4⟩ := recR_parts h.1
  exact ⟨by omega, rfl, rfl, rfl, rfl⟩
theorem MSt.step {l t t' : List UInt8} {kind many z : Nat} {ns : List Int} {b b' : Bool} (h : MSt l kind many ns t b) (hi : ns.length < many) (h1 : ∀ v q, rdN 8 t = some (v, q) → z = v ∧ t' = q ∧ b' = b) : MSt l kind many (ns ++ [signO z]) t' b' := by
  intro k zs hb
  obtain ⟨e1, e2, e3, e4, e5⟩ := h k zs hb
  have hi' : ns.length < zs.length := by omega
  rw [e4] at h1
  obtain ⟨rfl, rfl, rfl⟩ := h1 _ _ (hb.rd3 ns.length hi')
  refine ⟨e1, e2, ?_, ?_, e5⟩
  · rw [List.length_append, List.length_singleton, List.take_succ_eq_append_getElem hi', ← e3, signO_N]
  · rw [List.length_append, List.length_singleton]
theorem good_take {t : List UInt8} {n : Nat} {q : List UInt8} (g : Good t n q) : t.take (usedN n) = 82 :: (numB n ++ (q.take n ++ (q.drop n).take 4)) := by
  have h4 := g.2.2.2.1
  rw [g.2.1, usedN, show 1 + (numB n).length + n + 4 = ((numB n).length + (n + 4)) + 1 by omega, List.take_succ_cons, List.take_length_add_append]
  rw [List.take_add]
theorem rec_eq {t : List UInt8} {n : Nat} {q : List UInt8} (g : Good t n q) (k : Int) (ns : List Int) : recT k ns = t.take (usedN n) ↔ IsBody (q.take n) k ns := by
  have h4 := g.2.2.2.1
  have hl : (q.take n).length = n := by rw [List.length_take]; omega
  rw [good_take g, recT]
  constructor
  · intro h
    by_cases hr : recR k ns = true
    · rw [if_pos hr, recB_parts] at h
      simp only [List.cons.injEq, true_and] at h
      obtain ⟨e1, e2⟩ := numB_inj h
      have := congrArg (List.take n) e2
      rw [List.take_left' (by omega), List.take_left' hl] at this
      exact ⟨hr, this.symm⟩
    · rw [if_neg hr] at h; cases h
  · intro h
    rw [if_pos h.1, recB_parts, ← h.2, hl, g.2.2.2.2]
/-- No body: bad, or the bytes are others. -/
theorem MSt.no {t : List UInt8} {n : Nat} {q l2 : List UInt8} (g : Good t n q) {kind many : Nat} {ns : List Int} {bad : Bool} (h : MSt (q.take n) kind many ns l2 bad) (he : many ≤ ns.length ∨ 60 < ns.length ∨ bad = true) (hx : bad = true ∨ recT kind ns ≠ t.take (usedN n)) : ∀ k zs, ¬ IsBody (q.take n) k zs := by
  intro k zs hb
  obtain ⟨e1, e2, e3, e4, e5⟩ := h k zs hb
  obtain ⟨r1, r2, r3, r4⟩ := recR_parts hb.1
  have hns : ns.length ≤ zs.length := by rw [e3, List.length_take]; omega
  rw [e5] at he hx
  have hle : zs.length ≤ ns.length := by
    rcases he with h | h | h
    · omega
    · omega
    · cases h
  rw [List.take_of_length_le hle] at e3
  rcases hx with h | h
  · cases h
  · rw [e1, e3] at h
    exact h ((rec_eq g k zs).2 hb)

end Go.Proofs.YtmffoannknkjkaaDoor
namespace Go.Proofs.YtmffoannknkjkaaDoor
open Go.RowKit
set_option linter.unusedVariables false

/-- The answer's block and the reader's. -/
structure MD (w : World) (t : ByteArray) (bad : Bool) (w' : World) : Prop where
  q : QAt w' w.heap.size
  n : NAt w' (w.heap.size + 1) t bad
  low : Below w.heap.size w w'
theorem MD.new (w : World) (t : ByteArray) : MD w t false ((w.alloc (.cells #[.int .i64 0, .slice none 0 0, .int .i64 0, .int .i64 0] 52)).alloc (.cells #[.string t, .bool false] 57)) := by
  refine ⟨(QAt.new w).below (bA0 _ _), ?_, (bA0 _ _).alloc (by simp) _⟩
  show ((w.heap.push _).push _)[w.heap.size + 1]? = _
  rw [Array.getElem?_push]; simp
theorem MD.num {w : World} {t t' : ByteArray} {bad bad' : Bool} {w1 w2 : World} (h : MD w t bad w1) (ho : Only (w.heap.size + 1) w1 w2) (hn : NAt w2 (w.heap.size + 1) t' bad') : MD w t' bad' w2 :=
  ⟨(ho.block w.heap.size (Array.getElem?_eq_some_iff.1 h.q).1 (by omega)).trans h.q, hn, Only.below h.low (by omega) ho⟩
theorem MD.below {w : World} {t : ByteArray} {bad : Bool} {w1 w2 : World} (h : MD w t bad w1) (hb : Below w1.heap.size w1 w2) : MD w t bad w2 := ⟨h.q.below hb, h.n.below hb, bT h.low hb⟩
theorem MD.set0 {w : World} {t : ByteArray} {bad : Bool} {w1 : World} (h : MD w t bad w1) (u : ByteArray) : MD w u bad (w1.setCell ⟨w.heap.size + 1, 0, none⟩ (.string u)) :=
  h.num ((Only.refl _ _).setCell 0 _) (h.n.set0 u)
theorem MD.alloc {w : World} {t : ByteArray} {bad : Bool} {w1 : World} (h : MD w t bad w1) (o : Obj) : MD w t bad (w1.alloc o) := h.below (bA0 _ _)
theorem own_onlyR {b B : Nat} {e : TypeId} {m : Nat} {v : Value} {n : Nat} {xs : List Value} {w w' : World} (h : w.ownsRow B e m v n xs) (ho : Only b w w') (hb : b < B) : w'.ownsRow B e m v n xs := by
  refine ⟨h.1, ?_⟩
  rcases h.2 with h | ⟨g, cap, cur, hv, hg, hh, r⟩
  · exact .inl h
  · exact .inr ⟨g, cap, cur, hv, hg, (ho.block g (Array.getElem?_eq_some_iff.1 hh).1 (by omega)).trans hh, r⟩

set_option maxRecDepth 100000 in
set_option maxHeartbeats 1000000 in
theorem sr_seven (s : ByteArray) (hs : s.size ≤ 20000) (hd : s.data.toList.head? ≠ some 82) (w : World) :
    Calls Tryd.prog 30 #[.string s] w fun e w' => e = .returned (RO 0 (.slice none 0 0) 0 7) ∧ Below w.heap.size w w' := by
  by_cases h0 : s.size = 0
  · have h0' : (s.size : Int) = 0 := by omega
    have h1' : ((s.size : Int) == 0) = true := by rw [h0']; rfl
    clear hd
    go_enter Tryd.func30, Tryd.ntmps30
    go_wp2
    exact bodyPost_ret (v := RO 0 (.slice none 0 0) 0 7) (by simp [results, Tryd.results30, go_sem]) rfl ⟨rfl, bA0 _ _⟩
  · have hp : 0 < s.size := by omega
    have hp' : (0 : Int) < (s.size : Int) := by omega
    have h1' : ((s.size : Int) == 0) = false := by rw [beq_eq_false_iff_ne]; omega
    have hne : ¬ ((s[0]'hp).toNat : Int) = 82 := by
      intro e
      have e1 : (s[0]'hp) = 82 := UInt8.toNat_inj.1 (by have : (s[0]'hp).toNat = 82 := by omega
                                                        rw [this]; rfl)
      have := drop_cons s 0 hp
      rw [List.drop_zero] at this
      rw [this, e1] at hd
      exact hd rfl
    have hne' : (((s[0]'hp).toNat : Int) != 82) = true := by simp; omega
    clear hd
    go_enter Tryd.func30, Tryd.ntmps30
    go_wp2
    exact bodyPost_ret (v := RO 0 (.slice none 0 0) 0 7) (by simp [results, Tryd.results30, go_sem]) rfl ⟨rfl, bA0 _ _⟩

set_option maxRecDepth 100000 in
set_option maxHeartbeats 1000000 in
theorem sr_short (s : ByteArray) (hp : 0 < s.size) (e82 : ((s[0]'hp).toNat : Int) = 82) (hsh : s.size = 1 ∨ ∃ h : 1 < s.size, s.size = 2 ∧ 128 ≤ (s[1]'h).toNat) (w : World) :
    Calls Tryd.prog 30 #[.string s] w fun e w' => e = .returned (RO 0 (.slice none 0 0) 0 6) ∧ Below w.heap.size w w' := by
  have hp' : (0 : Int) < (s.size : Int) := by omega
  have h1' : ((s.size : Int) == 0) = false := by rw [beq_eq_false_iff_ne]; omega
  rcases hsh with h | ⟨h, h2, h3⟩
  · have h2' : ((s.size : Int) == 1) = true := by rw [h]; rfl
    have h2'' : (s.size : Int) = 1 := by omega
    go_enter Tryd.func30, Tryd.ntmps30
    go_wp2
    exact bodyPost_ret (v := RO 0 (.slice none 0 0) 0 6) (by simp [results, Tryd.results30, go_sem]) rfl ⟨rfl, bA0 _ _⟩
  · have h2' : ((s.size : Int) == 1) = false := by rw [beq_eq_false_iff_ne]; omega
    have h3' : ((s.size : Int) == 2) = true := by rw [h2]; rfl
    have h3'' : (s.size : Int) = 2 := by omega
    have h4 : (1 : Int) < (s.size : Int) := by omega
    have h5 : (128 : Int) ≤ ((s[1]'h).toNat : Int) := by omega
    go_enter Tryd.func30, Tryd.ntmps30
    go_wp2
    exact bodyPost_ret (v := RO 0 (.slice none 0 0) 0 6) (by simp [results, Tryd.results30, go_sem]) rfl ⟨rfl, bA0 _ _⟩

end Go.Proofs.YtmffoannknkjkaaDoor
