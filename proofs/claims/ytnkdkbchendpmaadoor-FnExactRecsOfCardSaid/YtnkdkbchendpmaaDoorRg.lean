/-
  A NUMBER READ, AS THE MODEL DOES IT.
-/
import Derived.Test.YtnkdkbchendpmaaDoorRf
import Derived.Test.YtnkdkbchendpmaaDoorBd
import Derived.Deep.RegionHeld3
import Derived.Deep.RegionWith
import Derived.Deep.RegionHeldLaw
import Derived.BigRegion
import Derived.Deep.CutRange
import Derived.Deep.DeepCutAuto
import Derived.Test.YtnkdkbchendpmaaDoorDa
namespace Go.Proofs.YtnkdkbchendpmaaDoor
open Go.RowKit
set_option linter.unusedVariables false

/-- The model's reader in block b. -/
def NAt (w : World) (b : Nat) (t : ByteArray) (bad : Bool) : Prop := w.heap[b]? = some (.cells #[.string t, .bool bad] 96)
theorem NAt.cells {w : World} {b : Nat} {t : ByteArray} {bad : Bool} (h : NAt w b t bad) : w.cell? ⟨b, 0, none⟩ = some (.string t) ∧ w.cell? ⟨b, 1, none⟩ = some (.bool bad) ∧ (∀ o, w.frozen? ⟨b, o, none⟩ = false) ∧ b < w.heap.size := by
  have hl := (Array.getElem?_eq_some_iff.1 h).1
  unfold NAt at h
  refine ⟨?_, ?_, fun o => ?_, hl⟩
  · simp [World.cell?, h]
  · simp [World.cell?, h]
  · simp [World.frozen?, h]
theorem NAt.below {w w' : World} {b : Nat} {t : ByteArray} {bad : Bool} (h : NAt w b t bad) (hb : Below w.heap.size w w') : NAt w' b t bad := (hb.block b (Array.getElem?_eq_some_iff.1 h).1).trans h
theorem NAt.set1 {w : World} {b : Nat} {t : ByteArray} {bad : Bool} (h : NAt w b t bad) (u : Bool) : NAt (w.setCell ⟨b, 1, none⟩ (.bool u)) b t u := heap_setCell_same w b 1 _ 96 _ h
theorem NAt.set0 {w : World} {b : Nat} {t : ByteArray} {bad : Bool} (h : NAt w b t bad) (u : ByteArray) : NAt (w.setCell ⟨b, 0, none⟩ (.string u)) b u bad := heap_setCell_same w b 0 _ 96 _ h
/-- What stands in the reader's second cell. -/
def bdAt (b : Nat) (w : World) : Bool := match w.cell? ⟨b, 1, none⟩ with | some (.bool x) => x | _ => false
theorem NAt.bd {w : World} {b : Nat} {t : ByteArray} {bad : Bool} (h : NAt w b t bad) : bdAt b w = bad := by unfold bdAt; rw [h.cells.2.1]
theorem NAt.S {w : World} {b : Nat} {t : ByteArray} {bad : Bool} (h : NAt w b t bad) : b < w.heap.size ∧ w.cell? ⟨b, 0, none⟩ = some (.string t) ∧ w.cell? ⟨b, 1, none⟩ = some (.bool (bdAt b w)) := ⟨h.cells.2.2.2, h.cells.1, by rw [h.bd]; exact h.cells.2.1⟩
theorem NAt.drew {w : World} {b : Nat} {t : ByteArray} {bad : Bool} (h : NAt w b t bad) : NAt w.drew b t bad := h
theorem Only.set {b : Nat} {u v : World} (h : Only b u v) (o : Nat) (x : Value) : Only b u (v.setCell ⟨b, o, none⟩ x) := h.setCell o x
/-- What num answers. -/
def NumPost (b : Nat) (t : ByteArray) (bad : Bool) (w : World) (e : Ending) (w' : World) : Prop :=
  ∃ (x : Nat) (t' : ByteArray) (bad' : Bool), e = .returned (.int .i64 x) ∧ x < 72057594037927936 ∧ NAt w' b t' bad' ∧ t'.size ≤ t.size ∧
    (∀ v q, rdN 8 t.data.toList = some (v, q) → x = v ∧ t'.data.toList = q ∧ bad' = bad) ∧ (rdN 8 t.data.toList = none → bad' = true) ∧ (bad = true → bad' = true) ∧ Only b w w'

theorem un_add (a b u j : Nat) (hj : j ≤ 7) (hu : u = 128 ^ j) (ha : a < u) : wrap64 ((a : Int) + wrap64 ((b : Int) % 128 * (u : Int))) = ((a + u * (b % 128) : Nat) : Int) ∧ a + u * (b % 128) < u * 128 ∧ u ≤ 562949953421312 := by
  have hp : 128 ^ j ≤ 128 ^ 7 := Nat.pow_le_pow_right (by decide) hj
  have hm : b % 128 ≤ 127 := by omega
  have hq : u * (b % 128) ≤ u * 127 := Nat.mul_le_mul_left _ hm
  rw [show (b : Int) % 128 * (u : Int) = ((u * (b % 128) : Nat) : Int) by push_cast; rw [Int.mul_comm]]
  generalize u * (b % 128) = m at *
  rw [← hu] at hp
  rw [wrS (m : Int) (by omega) (by omega), wrS _ (by omega) (by omega)]
  refine ⟨by omega, by omega, by omega⟩

set_option maxRecDepth 100000 in
set_option maxHeartbeats 8000000 in
theorem num_s (b : Nat) (t : ByteArray) (bad : Bool) (w : World) (ht : t.size ≤ 20000) (h : NAt w b t bad) :
    Calls Tryd.prog 67 #[.pointer (some ⟨b, 0, none⟩)] w fun e w' => NumPost b t bad w e w' := by
  have H := Lib.hid h
  obtain ⟨c0, c1, cf, cl⟩ := h.cells
  clear h
  go_enter Tryd.func67, Tryd.ntmps67
  go_wp2
  have hlen : t.data.toList.length = t.size := by simp
  go_loop [3, 4, 5] (fun n u i => ∃ j a U : Nat, i = .int .i64 j ∧ n = .int .i64 a ∧ u = .int .i64 U ∧ j ≤ 8 ∧ j ≤ t.size ∧ Hid (U = 128 ^ j) ∧ a < U ∧ U ≤ 72057594037927936 ∧ Hid (rdN 8 t.data.toList = fin j a (rdN (8 - j) (t.data.toList.drop j)))) (fun _ _ i => 8 - (intOf i).toNat)
  case atStart => exact ⟨0, 0, 1, rfl, rfl, rfl, by omega, Nat.zero_le _, rfl, by decide, by decide, (by show _ = _; rw [fin_zero]; rfl)⟩
  case round =>
    obtain ⟨j, a, U, rfl, rfl, rfl, hj8, hjt, HU, haU, hU8, HF⟩ := hrel
    have hj0 : (0 : Int) ≤ (j : Int) := by omega
    by_cases h1 : j < t.size ∧ j < 8
    · obtain ⟨h1, h2⟩ := h1
      have h1' : (j : Int) < (t.size : Int) := by omega
      have h2' : (j : Int) < 8 := by omega
      obtain ⟨eS, lS, uS⟩ := un_add a (t[j]'h1).toNat U j (by omega) HU.out haU
      have HS := Lib.hid eS
      have hb : ((t[j]'h1).toNat : Int) < 256 := by have := (t[j]'h1).toNat_lt; omega
      have hb0 : (0 : Int) ≤ ((t[j]'h1).toNat : Int) := by omega
      have ED := drop_cons t j h1
      have e8 : 8 - j = (7 - j) + 1 := by omega
      have uS' : (U : Int) ≤ 562949953421312 := by omega
      clear eS
      by_cases hc : (t[j]'h1).toNat < 128
      · have hc' : ((t[j]'h1).toNat : Int) < 128 := by omega
        have R : rdN 8 t.data.toList = fin j a (some ((t[j]'h1).toNat, t.data.toList.drop (j + 1))) := by rw [HF.out, ED, e8, rdN_byte _ _ _ hc]
        have et : (t.extract 0 (j + 1)).data.toList = t.data.toList.take (j + 1) := by rw [Lib.extract_data]; simp
        have eq : (t.extract (j + 1) t.size).data.toList = t.data.toList.drop (j + 1) := by
          rw [Lib.extract_data]; exact List.take_of_length_le (by simp)
        have hs2 : Hid ((t.extract (j + 1) t.size).size ≤ t.size) := by show _ ≤ _; simp
        have hV : a + U * ((t[j]'h1).toNat % 128) < 72057594037927936 := by omega
        have hsome : ∀ v q, rdN 8 t.data.toList = some (v, q) → a + U * ((t[j]'h1).toNat % 128) = v ∧ (t.extract (j + 1) t.size).data.toList = q := by
          intro v q h
          rw [R, fin] at h
          split at h
          · cases h
          · simp only [Option.some.injEq, Prod.mk.injEq] at h
            rw [eq, HU.out, Nat.mod_eq_of_lt hc]; exact h
        have hiff : (⟨(numB (a + U * ((t[j]'h1).toNat % 128))).toArray⟩ : ByteArray) = t.extract 0 (j + 1) ↔ rdN 8 t.data.toList ≠ none := by
          have e1 : (⟨(numB (a + U * ((t[j]'h1).toNat % 128))).toArray⟩ : ByteArray) = t.extract 0 (j + 1) ↔ numB (a + U * ((t[j]'h1).toNat % 128)) = t.data.toList.take (j + 1) := by
            rw [← et]
            constructor
            · intro h; rw [← h]
            · intro h; apply Go.WideShapes.bytes_inj; simpa using h
          rw [e1]
          constructor
          · intro h hn
            have e2 : t.data.toList = numB (a + U * ((t[j]'h1).toNat % 128)) ++ t.data.toList.drop (j + 1) := by rw [h, List.take_append_drop]
            have := rdN_numB 8 (a + U * ((t[j]'h1).toNat % 128)) (t.data.toList.drop (j + 1)) (by rw [h]; simp; omega)
            rw [← e2, hn] at this; cases this
          · intro h
            cases hR : rdN 8 t.data.toList with
            | none => exact absurd hR h
            | some pr =>
              obtain ⟨v, q⟩ := pr
              obtain ⟨rfl, rfl⟩ := hsome v q hR
              have e3 := (rdN_some _ _ _ _ hR).1
              rw [eq] at e3
              have := congrArg (List.take (numB (a + U * ((t[j]'h1).toNat % 128))).length) e3
              rw [List.take_left] at this
              have hl2 := congrArg List.length e3
              rw [List.length_append, List.length_drop, hlen] at hl2
              rw [← this]; congr 1; omega
        have HSM := Lib.hid hsome
        have HIF := Lib.hid hiff
        clear hsome hiff et eq R ED e8 HF
        generalize hVV : a + U * ((t[j]'h1).toNat % 128) = V at *
        clear hVV
        have hj1 : (j : Int) + 1 ≤ (t.size : Int) := by omega
        have NB : Hid (∀ w1, Calls Tryd.prog 17 #[.int .i64 (V : Int)] w1 fun e w' => e = .returned (.string ⟨(numB V).toArray⟩) ∧ Below w1.heap.size w1 w') := fun w1 => by
          have := snb_any V (by omega) w1
          rwa [numT, if_neg (by omega), Int.toNat_natCast] at this
        have hw1 : IntKind.i64.wrap ((j : Int) + 1) = (j : Int) + 1 := by rw [IntKind.wrap_i64]; omega
        have hj2 : (0 : Int) ≤ (j : Int) + 1 := by omega
        cases bad
        · generalize (⟨(numB V).toArray⟩ : ByteArray) = nv at *
          have PQ : Hid (∀ (q : Bool) (W : World), (nv.toList == (t.extract 0 (j + 1)).toList) = q → NAt W b t (!q) → Only b w W → NumPost b t false w (.returned (.int .i64 (V : Int))) (W.setCell ⟨b, 0, none⟩ (.string (t.extract (j + 1) t.size)))) := fun q W hq hn ho => by
            refine ⟨V, t.extract (j + 1) t.size, !q, rfl, hV, hn.set0 _, hs2.out, fun v r hr => ?_, fun hr => ?_, (fun h => by cases h), ho.set 0 _⟩
            · obtain ⟨e1, e2⟩ := HSM.out v r hr
              refine ⟨e1, e2, ?_⟩
              have e3 := HIF.out.2 (by rw [hr]; simp)
              rw [e3] at hq
              have : q = true := by rw [← hq]; simp
              rw [this]; rfl
            · cases q
              · rfl
              · have e3 : nv = t.extract 0 (j + 1) := by
                  have := eq_of_beq hq
                  rw [Go.ByteArray.toList_eq, Go.ByteArray.toList_eq] at this
                  exact Go.WideShapes.bytes_inj this
                exact absurd hr (HIF.out.1 e3)
          cases hq : (nv.toList == (t.extract 0 (j + 1)).toList)
          · have HQ := Lib.hid hq
            have hnq : (nv.toList != (t.extract 0 (j + 1)).toList) = true := by rw [bne, hq]; rfl
            go_wp2_with fail
            rw [HS.out]
            go_cut [] (fun W => Hid (NAt W b t true) ∧ Hid (Only b w W))
            case first =>
              clear hb hb0 uS uS' lS haU hU8 hj8 hlen HU PQ HIF HSM hV hs2 HS HQ ht hjt
              go_region_with (first | (go_at_call 17; refine (NB.out _).mono ?_; rintro e w5 ⟨rfl, b5⟩; have N5 := Lib.hid (H.out.drew.below b5); obtain ⟨k0, k1, kf, kl⟩ := N5.out.cells; have O5 : Hid (Only b w w5) := (Only.refl b w).drew.trans (Only.of_below b5); have M5 := Lib.hid (N5.out.set1 true); clear b5))
              all_goals
                go_wp2_with fail
                go_meet
                exact ⟨M5, O5.out.set 1 _⟩
            case rest =>
              obtain ⟨N6, O6⟩ := hcut
              clear c0 c1 cf cl
              obtain ⟨k0, k1, kf, kl⟩ := N6.out.cells
              have P := Lib.hid (PQ.out false wc HQ.out N6.out O6.out)
              clear hq hnq PQ HQ
              go_wp2
              go_ret
              exact P.out
          · have HQ := Lib.hid hq
            have hnq : (nv.toList != (t.extract 0 (j + 1)).toList) = false := by rw [bne, hq]; rfl
            go_wp2_with fail
            rw [HS.out]
            go_cut [] (fun W => Hid (NAt W b t false) ∧ Hid (Only b w W))
            case first =>
              clear hb hb0 uS uS' lS haU hU8 hj8 hlen HU PQ HIF HSM hV hs2 HS HQ ht hjt
              go_region_held_law (fun w' => b < w'.heap.size ∧ w'.cell? ⟨b, 0, none⟩ = some (.string t) ∧ w'.cell? ⟨b, 1, none⟩ = some (.bool false)) (first | exact ⟨cl, c0, c1⟩ | exact ⟨kl, k0, k1⟩ | exact ⟨M5.out.cells.2.2.2, M5.out.cells.1, M5.out.cells.2.1⟩) (first | (go_at_call 17; refine (NB.out _).mono ?_; rintro e w5 ⟨rfl, b5⟩; have N5 := Lib.hid (H.out.drew.below b5); obtain ⟨k0, k1, kf, kl⟩ := N5.out.cells; have O5 : Hid (Only b w w5) := (Only.refl b w).drew.trans (Only.of_below b5); have M5 := Lib.hid (N5.out.set1 false); clear b5))
              all_goals
                go_wp2_with fail
                go_meet
                exact ⟨M5, O5.out.set 1 _⟩
            case rest =>
              obtain ⟨N6, O6⟩ := hcut
              clear c0 c1 cf cl
              obtain ⟨k0, k1, kf, kl⟩ := N6.out.cells
              have P := Lib.hid (PQ.out true wc HQ.out N6.out O6.out)
              clear hq hnq PQ HQ
              go_wp2
              go_ret
              exact P.out
        · have PB : Hid (∀ W, NAt W b t true → Only b w W → NumPost b t true w (.returned (.int .i64 (V : Int))) (W.setCell ⟨b, 0, none⟩ (.string (t.extract (j + 1) t.size)))) := fun W hn ho => by
            refine ⟨V, t.extract (j + 1) t.size, true, rfl, hV, hn.set0 _, hs2.out, fun v r hr => ?_, fun _ => rfl, fun _ => rfl, ho.set 0 _⟩
            obtain ⟨e1, e2⟩ := HSM.out v r hr
            exact ⟨e1, e2, rfl⟩
          go_wp2_with fail
          rw [HS.out]
          go_cut [] (fun W => Hid (NAt W b t true) ∧ Hid (Only b w W))
          case first =>
            have M5 := Lib.hid (H.out.set1 true)
            go_region
            all_goals
              go_wp2_with fail
              go_meet
              exact ⟨M5.out.drew, ((Only.refl b w).set 1 _).drew⟩
          case rest =>
            obtain ⟨N6, O6⟩ := hcut
            clear c0 c1 cf cl
            obtain ⟨k0, k1, kf, kl⟩ := N6.out.cells
            have P := Lib.hid (PB.out wc N6.out O6.out)
            clear PB
            go_wp2
            go_ret
            exact P.out
      · have hc' : ¬ ((t[j]'h1).toNat : Int) < 128 := by omega
        have HF2 : Hid (rdN 8 t.data.toList = fin (j + 1) (a + U * ((t[j]'h1).toNat % 128)) (rdN (8 - (j + 1)) (t.data.toList.drop (j + 1)))) := by
          show _ = _
          rw [HF.out, ED, e8, fin_step _ _ _ _ _ hc, show (t[j]'h1).toNat % 128 = (t[j]'h1).toNat - 128 by have := (t[j]'h1).toNat_lt; omega, show 8 - (j + 1) = 7 - j by omega, HU.out]
        have HU2 : Hid (U * 128 = 128 ^ (j + 1)) := by show _ = _; rw [HU.out, Nat.pow_succ]
        clear ED e8 HF
        go_wp2
        go_round
        case rel => exact ⟨j + 1, a + U * ((t[j]'h1).toNat % 128), U * 128, by go_num, by rw [HS.out], by go_num, by omega, by omega, HU2, lS, by omega, HF2⟩
        case measure => simp [intOf]; omega
    · have F : Hid (rdN 8 t.data.toList = none) := by
        show _ = _
        rw [HF.out]
        by_cases h8 : j = 8
        · rw [h8]; rfl
        · rw [List.drop_of_length_le (by omega)]
          cases 8 - j <;> rfl
      clear HF
      have N2 := Lib.hid (H.out.set1 true)
      have P : Hid (NumPost b t bad w (.returned (.int .i64 0)) (w.setCell ⟨b, 1, none⟩ (.bool true))) :=
        ⟨0, t, true, rfl, by decide, N2.out, Nat.le_refl _, (fun v q h => by rw [F.out] at h; cases h), fun _ => rfl, fun _ => rfl, (Only.of_below (Below.refl _ _)).set 1 _⟩
      by_cases h3 : j < t.size
      · have h3' : (j : Int) < (t.size : Int) := by omega
        have h4' : ¬ (j : Int) < 8 := by omega
        go_wp2
        go_ret
        exact P.out
      · have h3' : decide ((j : Int) < (t.size : Int)) = false := by simp; omega
        go_wp2
        go_ret
        exact P.out

end Go.Proofs.YtnkdkbchendpmaaDoor
