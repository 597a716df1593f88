/-
  THE LAW FnMoneyText: its walk.
-/
import Derived.Test.YtcganhhnkidddaaDoorSp
import Derived.Test.YtcganhhnkidddaaDoorRi
import Derived.Deep.RegionHeld3
namespace Go.Proofs.YtcganhhnkidddaaDoor
open Go.RowKit
set_option linter.unusedVariables false

set_option maxHeartbeats 1000000 in
theorem dtext_any (sl : Option Addr) (len cap : Nat) (w : World) (hr : RowIn w sl len) :
    Calls Tryd.prog 6 #[.slice sl len cap] w fun e w' => ∃ v : Int, e = .returned (.int .i64 v) ∧ I64 v ∧ Below w.heap.size w w' := by
  have HR := Lib.hid hr
  clear hr
  go_enter Tryd.func6, Tryd.ntmps6
  go_wp2_with fail
  refine (source_any sl len cap w HR.out).mono ?_
  rintro e w1 ⟨rfl, s1, b1⟩
  have H1 := Lib.hid s1
  have B1 := Lib.hid b1
  clear s1 b1
  go_wp2_with fail
  refine (money_any _ _ H1.out).mono ?_
  rintro e w2 ⟨v, rfl, hv, s2, o2⟩
  have B2 := Lib.hid (Only.below B1.out (Nat.le_refl _) o2)
  have HV := Lib.hid hv
  clear s2 o2 hv
  go_wp2
  go_ret
  exact ⟨_, rfl, HV.out, B2.out⟩

theorem mtext_short (v : Int) : (⟨(mtextOf v).toArray⟩ : ByteArray).size ≤ 15 := by
  show (mtextOf v).toArray.size ≤ 15
  unfold mtextOf
  split
  · rename_i h
    have := mtext_len v h
    have e : mtext v = mtextI v := rfl
    rw [e]; simpa using this.2
  · simp

theorem pick_new (w : World) : PickAt (w.alloc (.cells #[.string ⟨#[]⟩, .string ⟨#[48, 46, 48, 48]⟩, .string ⟨#[45, 48, 46, 48, 48]⟩, .string ⟨#[48, 48, 46, 49, 48]⟩, .string ⟨#[46, 49, 48]⟩, .string ⟨#[49, 46, 49]⟩, .string ⟨#[49, 48, 48, 48, 48, 48, 48, 48, 48, 48, 48, 46, 48, 48]⟩, .string ⟨#[49, 48, 48, 48, 48, 48, 48, 48, 48, 48, 48, 46, 48, 49]⟩, .string ⟨#[49, 44, 48, 48]⟩] 9)) w.heap.size := by
  show (w.heap.push _)[w.heap.size]? = _
  simp [picks]

set_option maxRecDepth 100000 in
set_option maxHeartbeats 1000000 in
theorem dread_any (sl : Option Addr) (len cap : Nat) (w : World) (hr : RowIn w sl len) :
    Calls Tryd.prog 9 #[.slice sl len cap] w fun e w' => ∃ u : ByteArray, e = .returned (.string u) ∧ u.size ≤ 100 ∧ Below w.heap.size w w' := by
  have HR := Lib.hid hr
  clear hr
  go_enter Tryd.func9, Tryd.ntmps9
  go_wp2_with fail
  refine (source_any sl len cap w HR.out).mono ?_
  rintro e w1 ⟨rfl, s1, b1⟩
  have H1 := Lib.hid s1
  have B1 := Lib.hid b1
  clear s1 b1
  go_wp2_with fail
  refine (money_any _ _ H1.out).mono ?_
  rintro e w2 ⟨v, rfl, hv, s2, o2⟩
  have H2 := Lib.hid s2
  have O2 := Lib.hid o2
  have B2 := Lib.hid (Only.below B1.out (Nat.le_refl _) o2)
  clear s2 o2 hv H1 B1
  go_wp2_with fail
  refine (smt_any v _).mono ?_
  rintro e w3 ⟨rfl, b3⟩
  have H3 := Lib.hid (H2.out.other b3)
  have B3 := Lib.hid (bT B2.out b3)
  have hz := mtext_short v
  generalize (⟨(mtextOf v).toArray⟩ : ByteArray) = t at *
  clear b3 H2 B2 O2
  go_wp2_with fail
  refine (one_any w.heap.size 3 _ (by decide) H3.out).mono ?_
  rintro e w4 ⟨tt, rfl, s4, o4⟩
  have H4 := Lib.hid s4
  have B4 := Lib.hid (Only.below B3.out (Nat.le_refl _) o4)
  clear s4 o4 H3 B3
  cases tt
  · go_wp2_with fail
    refine (one_any w.heap.size 9 _ (by decide) H4.out).mono ?_
    rintro e w6 ⟨ff, rfl, s6, o6⟩
    have H6 := Lib.hid s6
    have B6 := Lib.hid (Only.below B4.out (Nat.le_refl _) o6)
    clear s6 o6 H4 B4
    cases ff
    · go_wp2
      go_ret
      exact ⟨_, rfl, by omega, B6.out⟩
    · have PK := Lib.hid (pick_new w6)
      have hlt := H6.out.lt
      go_wp2_with fail
      refine (pick_any w.heap.size w6.heap.size _ (H6.out.other (bA0 _ _)) PK.out (by omega)).mono ?_
      rintro e w7 ⟨u, rfl, hu, s7, o7⟩
      have B7 := Lib.hid (Only.below (bA B6.out _) (Nat.le_refl _) o7)
      clear s7 o7
      go_wp2
      go_ret
      exact ⟨_, rfl, by omega, B7.out⟩
  · go_wp2_with fail
    refine (spoil_any w.heap.size t _ (by omega) H4.out).mono ?_
    rintro e w5 ⟨t', rfl, ht', s5, o5⟩
    have H5 := Lib.hid s5
    have B5 := Lib.hid (Only.below B4.out (Nat.le_refl _) o5)
    clear s5 o5 H4 B4
    go_wp2_with fail
    refine (one_any w.heap.size 9 _ (by decide) H5.out).mono ?_
    rintro e w6 ⟨ff, rfl, s6, o6⟩
    have H6 := Lib.hid s6
    have B6 := Lib.hid (Only.below B5.out (Nat.le_refl _) o6)
    clear s6 o6 H5 B5
    cases ff
    · go_wp2
      go_ret
      exact ⟨_, rfl, by omega, B6.out⟩
    · have PK := Lib.hid (pick_new w6)
      have hlt := H6.out.lt
      go_wp2_with fail
      refine (pick_any w.heap.size w6.heap.size _ (H6.out.other (bA0 _ _)) PK.out (by omega)).mono ?_
      rintro e w7 ⟨u, rfl, hu, s7, o7⟩
      have B7 := Lib.hid (Only.below (bA B6.out _) (Nat.le_refl _) o7)
      clear s7 o7
      go_wp2
      go_ret
      exact ⟨_, rfl, by omega, B7.out⟩

theorem good_text (v : Int) (h : isM v = true) : goodT (mtextI v) := by
  have e := vOf_mtext v
  unfold goodT
  rw [e]
  exact ⟨h, rfl⟩
theorem read_told (v : Int) (h : isM v = true) (w : World) (ht : PowTab w) : Calls Tryd.prog 8 #[.string ⟨(mtextI v).toArray⟩] w fun e w' => e = .returned (M v 0) ∧ Below w.heap.size w w' := by
  have hl := mtext_len v h
  have := ird_any ⟨(mtextI v).toArray⟩ (by show (mtextI v).toArray.size ≤ _; unfold maxLen; simp; omega) w ht
  have hr := rd_good (t := mtextI v) (by omega) (good_text v h)
  have e : (⟨(mtextI v).toArray⟩ : ByteArray).data.toList = mtextI v := by simp
  rw [e, hr.1, hr.2, vOf_mtext v] at this
  exact this

theorem read_back (u : ByteArray) (h : u.size ≤ 20000) : (rdC u.data.toList = 0 ∧ (⟨(mtextOf (rdV u.data.toList)).toArray⟩ : ByteArray) = u) ∨ rdC u.data.toList = 3 := by
  have hl : u.data.toList.length = u.size := by simp
  by_cases hg : goodT u.data.toList
  · have hr := rd_good (t := u.data.toList) (by omega) hg
    exact .inl ⟨hr.2, by rw [hr.1]; exact told_self u hg⟩
  · exact .inr (rd_bad (t := u.data.toList) (by omega) hg).2
theorem two_new (w : World) (v c : Int) : (w.alloc (.cells #[.int .i64 v, .int .i64 c] 26)).cell? ⟨w.heap.size, 0, none⟩ = some (.int .i64 v) ∧ (w.alloc (.cells #[.int .i64 v, .int .i64 c] 26)).cell? ⟨w.heap.size, 1, none⟩ = some (.int .i64 c) ∧ w.heap.size < (w.alloc (.cells #[.int .i64 v, .int .i64 c] 26)).heap.size := by
  have hb : (w.alloc (.cells #[.int .i64 v, .int .i64 c] 26)).heap[w.heap.size]? = some (.cells #[.int .i64 v, .int .i64 c] 26 (0, 0)) := by show (w.heap.push _)[w.heap.size]? = _; simp
  refine ⟨by unfold World.cell?; simp only [hb]; rfl, by unfold World.cell?; simp only [hb]; rfl, by show _ < (w.heap.push _).size; simp⟩
theorem field_code (v c : Int) (w : World) : Sem.run Tryd.prog (Instr.field 26 (M v c) 1) w = .ok (.int .i64 c) w := by kernel_rfl
set_option maxRecDepth 100000 in
set_option maxHeartbeats 1000000 in
theorem lawMT (sl sl2 : Option Addr) (len cap len2 cap2 : Nat) (w : World) (ht : PowTab w) (hr : RowIn w sl len) (hr2 : RowIn w sl2 len2) (h1 : len ≤ 1048576) (h2 : len2 ≤ 1048576) :
    Calls Tryd.prog 3 #[.slice sl len cap, .slice sl2 len2 cap2] w fun e w' => e = .returned (.bool true) ∧ Below w.heap.size w w' := by
  have h1' : ¬ (1048576 : Int) < (len : Int) := by omega
  have h2' : ¬ (1048576 : Int) < (len2 : Int) := by omega
  have HR := Lib.hid hr
  have HR2 := Lib.hid hr2
  have HT := Lib.hid ht
  clear hr hr2 ht
  go_enter Tryd.func3, Tryd.ntmps3
  go_wp2_with fail
  refine (dtext_any sl len cap w HR.out).mono ?_
  rintro e w1 ⟨v, rfl, hv, b1⟩
  have B1 := Lib.hid b1
  have T1 := Lib.hid (HT.out.below b1)
  clear b1
  go_wp2_with fail
  refine (imt_any v w1 T1.out).mono ?_
  rintro e w2 ⟨rfl, b2⟩
  have B2 := Lib.hid (bT B1.out b2)
  clear b2 B1 T1
  cases hM : isM v
  · rw [show (if false = true then mtextI v else []) = ([] : List UInt8) from rfl]
    rcases isM_f hM with hlo | hhi
    · clear hM hv
      go_wp2_with fail
      refine (dread_any sl2 len2 cap2 _ (HR2.out.below B2.out)).mono ?_
      rintro e w3 ⟨u, rfl, hu, b3⟩
      have B3 := Lib.hid (bT B2.out b3)
      clear b3 B2
      go_wp2_with fail
      refine (ird_any u (by unfold maxLen; omega) _ (HT.out.below B3.out)).mono ?_
      rintro e w4 ⟨rfl, b4⟩
      have B4 := Lib.hid (bT B3.out b4)
      clear b4 B3
      have SR : Hid (∀ w1, Calls Tryd.prog 10 #[.string u] w1 fun e w' => e = .returned (M (rdV u.data.toList) (rdC u.data.toList)) ∧ Below w1.heap.size w1 w') := fun w1 => srd_any u w1
      have G := Lib.hid (read_back u (by omega))
      have MT : Hid (∀ w1, Below w.heap.size w w1 → Calls Tryd.prog 7 #[.int .i64 (rdV u.data.toList)] w1 fun e w' => e = .returned (.string ⟨(mtextOf (rdV u.data.toList)).toArray⟩) ∧ Below w1.heap.size w1 w') := fun w1 hb => imt_any _ w1 (HT.out.below hb)
      generalize (⟨(mtextOf (rdV u.data.toList)).toArray⟩ : ByteArray) = tx at *
      generalize rdV u.data.toList = V at *
      generalize rdC u.data.toList = C at *
      obtain ⟨d0, d1, hd⟩ := two_new w4 V C
      have X4 := Lib.hid (bA B4.out (.cells #[.int .i64 V, .int .i64 C] 26))
      go_wp2_with fail
      generalize w4.alloc (.cells #[.int .i64 V, .int .i64 C] 26) = W at *
      generalize w4.heap.size = q at *
      have hfc := field_code V C
      go_region_held3 (fun w' => q < w'.heap.size ∧ w'.cell? ⟨q, 0, none⟩ = some (.int .i64 V) ∧ w'.cell? ⟨q, 1, none⟩ = some (.int .i64 C)) (first | exact ⟨hd, d0, d1⟩ | exact ⟨Nat.lt_of_lt_of_le hd b5.size, (b5.cell hd).trans d0, (b5.cell hd).trans d1⟩) (first | (go_at_call 10; refine (SR.out _).mono ?_; rintro e w5 ⟨rfl, b5⟩))
      have g0 : w5.cell? ⟨q, 0, none⟩ = some (.int .i64 V) := (b5.cell hd).trans d0
      have g1 : w5.cell? ⟨q, 1, none⟩ = some (.int .i64 C) := (b5.cell hd).trans d1
      have B5 := Lib.hid (bT X4.out.drew b5)
      clear b5 d0 d1 hd X4 SR hfc
      rcases G.out with ⟨hC, htx⟩ | hC
      · have hC' : (C != 0) = false := by simp [hC]
        subst hC
        subst htx
        go_wp2_with fail
        refine (MT.out _ B5.out).mono ?_
        rintro e w6 ⟨rfl, b6⟩
        have B6 := Lib.hid (bT B5.out b6)
        clear b6
        go_wp2
        go_ret
        exact ⟨rfl, B6.out⟩
      · have hC' : (C != 0) = true := by simp [hC]
        subst hC
        go_wp2_with fail
        go_ret
        exact ⟨rfl, B5.out⟩
    · have hlo : ¬ v < -1000000000000 := by omega
      clear hM hv
      go_wp2_with fail
      refine (dread_any sl2 len2 cap2 _ (HR2.out.below B2.out)).mono ?_
      rintro e w3 ⟨u, rfl, hu, b3⟩
      have B3 := Lib.hid (bT B2.out b3)
      clear b3 B2
      go_wp2_with fail
      refine (ird_any u (by unfold maxLen; omega) _ (HT.out.below B3.out)).mono ?_
      rintro e w4 ⟨rfl, b4⟩
      have B4 := Lib.hid (bT B3.out b4)
      clear b4 B3
      have SR : Hid (∀ w1, Calls Tryd.prog 10 #[.string u] w1 fun e w' => e = .returned (M (rdV u.data.toList) (rdC u.data.toList)) ∧ Below w1.heap.size w1 w') := fun w1 => srd_any u w1
      have G := Lib.hid (read_back u (by omega))
      have MT : Hid (∀ w1, Below w.heap.size w w1 → Calls Tryd.prog 7 #[.int .i64 (rdV u.data.toList)] w1 fun e w' => e = .returned (.string ⟨(mtextOf (rdV u.data.toList)).toArray⟩) ∧ Below w1.heap.size w1 w') := fun w1 hb => imt_any _ w1 (HT.out.below hb)
      generalize (⟨(mtextOf (rdV u.data.toList)).toArray⟩ : ByteArray) = tx at *
      generalize rdV u.data.toList = V at *
      generalize rdC u.data.toList = C at *
      obtain ⟨d0, d1, hd⟩ := two_new w4 V C
      have X4 := Lib.hid (bA B4.out (.cells #[.int .i64 V, .int .i64 C] 26))
      go_wp2_with fail
      generalize w4.alloc (.cells #[.int .i64 V, .int .i64 C] 26) = W at *
      generalize w4.heap.size = q at *
      have hfc := field_code V C
      go_region_held3 (fun w' => q < w'.heap.size ∧ w'.cell? ⟨q, 0, none⟩ = some (.int .i64 V) ∧ w'.cell? ⟨q, 1, none⟩ = some (.int .i64 C)) (first | exact ⟨hd, d0, d1⟩ | exact ⟨Nat.lt_of_lt_of_le hd b5.size, (b5.cell hd).trans d0, (b5.cell hd).trans d1⟩) (first | (go_at_call 10; refine (SR.out _).mono ?_; rintro e w5 ⟨rfl, b5⟩))
      have g0 : w5.cell? ⟨q, 0, none⟩ = some (.int .i64 V) := (b5.cell hd).trans d0
      have g1 : w5.cell? ⟨q, 1, none⟩ = some (.int .i64 C) := (b5.cell hd).trans d1
      have B5 := Lib.hid (bT X4.out.drew b5)
      clear b5 d0 d1 hd X4 SR hfc
      rcases G.out with ⟨hC, htx⟩ | hC
      · have hC' : (C != 0) = false := by simp [hC]
        subst hC
        subst htx
        go_wp2_with fail
        refine (MT.out _ B5.out).mono ?_
        rintro e w6 ⟨rfl, b6⟩
        have B6 := Lib.hid (bT B5.out b6)
        clear b6
        go_wp2
        go_ret
        exact ⟨rfl, B6.out⟩
      · have hC' : (C != 0) = true := by simp [hC]
        subst hC
        go_wp2_with fail
        go_ret
        exact ⟨rfl, B5.out⟩
  · rw [if_pos rfl]
    obtain ⟨m1, m2⟩ := isM_t hM
    have hlo : ¬ v < -1000000000000 := by omega
    have hhi : ¬ 1000000000000 < v := by omega
    have RT : Hid (∀ w1, Below w.heap.size w w1 → Calls Tryd.prog 8 #[.string ⟨(mtextI v).toArray⟩] w1 fun e w' => e = .returned (M v 0) ∧ Below w1.heap.size w1 w') := fun w1 hb => read_told v hM w1 (HT.out.below hb)
    generalize (⟨(mtextI v).toArray⟩ : ByteArray) = tv at *
    clear hM hv
    go_wp2_with fail
    refine (RT.out _ B2.out).mono ?_
    rintro e w9 ⟨rfl, b9⟩
    have BB := Lib.hid (bT B2.out b9)
    clear B2 b9 RT
    have B2 := BB
    clear BB
    go_wp2_with fail
    refine (dread_any sl2 len2 cap2 _ (HR2.out.below B2.out)).mono ?_
    rintro e w3 ⟨u, rfl, hu, b3⟩
    have B3 := Lib.hid (bT B2.out b3)
    clear b3 B2
    go_wp2_with fail
    refine (ird_any u (by unfold maxLen; omega) _ (HT.out.below B3.out)).mono ?_
    rintro e w4 ⟨rfl, b4⟩
    have B4 := Lib.hid (bT B3.out b4)
    clear b4 B3
    have SR : Hid (∀ w1, Calls Tryd.prog 10 #[.string u] w1 fun e w' => e = .returned (M (rdV u.data.toList) (rdC u.data.toList)) ∧ Below w1.heap.size w1 w') := fun w1 => srd_any u w1
    have G := Lib.hid (read_back u (by omega))
    have MT : Hid (∀ w1, Below w.heap.size w w1 → Calls Tryd.prog 7 #[.int .i64 (rdV u.data.toList)] w1 fun e w' => e = .returned (.string ⟨(mtextOf (rdV u.data.toList)).toArray⟩) ∧ Below w1.heap.size w1 w') := fun w1 hb => imt_any _ w1 (HT.out.below hb)
    generalize (⟨(mtextOf (rdV u.data.toList)).toArray⟩ : ByteArray) = tx at *
    generalize rdV u.data.toList = V at *
    generalize rdC u.data.toList = C at *
    obtain ⟨d0, d1, hd⟩ := two_new w4 V C
    have X4 := Lib.hid (bA B4.out (.cells #[.int .i64 V, .int .i64 C] 26))
    go_wp2_with fail
    generalize w4.alloc (.cells #[.int .i64 V, .int .i64 C] 26) = W at *
    generalize w4.heap.size = q at *
    have hfc := field_code V C
    go_region_held3 (fun w' => q < w'.heap.size ∧ w'.cell? ⟨q, 0, none⟩ = some (.int .i64 V) ∧ w'.cell? ⟨q, 1, none⟩ = some (.int .i64 C)) (first | exact ⟨hd, d0, d1⟩ | exact ⟨Nat.lt_of_lt_of_le hd b5.size, (b5.cell hd).trans d0, (b5.cell hd).trans d1⟩) (first | (go_at_call 10; refine (SR.out _).mono ?_; rintro e w5 ⟨rfl, b5⟩))
    have g0 : w5.cell? ⟨q, 0, none⟩ = some (.int .i64 V) := (b5.cell hd).trans d0
    have g1 : w5.cell? ⟨q, 1, none⟩ = some (.int .i64 C) := (b5.cell hd).trans d1
    have B5 := Lib.hid (bT X4.out.drew b5)
    clear b5 d0 d1 hd X4 SR hfc
    rcases G.out with ⟨hC, htx⟩ | hC
    · have hC' : (C != 0) = false := by simp [hC]
      subst hC
      subst htx
      go_wp2_with fail
      refine (MT.out _ B5.out).mono ?_
      rintro e w6 ⟨rfl, b6⟩
      have B6 := Lib.hid (bT B5.out b6)
      clear b6
      go_wp2
      go_ret
      exact ⟨rfl, B6.out⟩
    · have hC' : (C != 0) = true := by simp [hC]
      subst hC
      go_wp2_with fail
      go_ret
      exact ⟨rfl, B5.out⟩

theorem lawMT_long (sl sl2 : Option Addr) (len cap len2 cap2 : Nat) (w : World) (h : 1048576 < len ∨ 1048576 < len2) :
    Calls Tryd.prog 3 #[.slice sl len cap, .slice sl2 len2 cap2] w fun e w' => e = .returned (.bool true) ∧ Below w.heap.size w w' := by
  by_cases h1 : 1048576 < len
  · have h1' : (1048576 : Int) < (len : Int) := by omega
    clear h
    go_enter Tryd.func3, Tryd.ntmps3
    go_wp2
    go_ret
    exact ⟨rfl, Below.refl _ _⟩
  · have h1' : decide ((1048576 : Int) < (len : Int)) = false := by simp; omega
    have h2' : (1048576 : Int) < (len2 : Int) := by omega
    clear h
    go_enter Tryd.func3, Tryd.ntmps3
    go_wp2
    go_ret
    exact ⟨rfl, Below.refl _ _⟩

theorem lawMT_all (sl sl2 : Option Addr) (len cap len2 cap2 : Nat) (w : World) (ht : PowTab w) (hr : RowIn w sl len) (hr2 : RowIn w sl2 len2) :
    Calls Tryd.prog 3 #[.slice sl len cap, .slice sl2 len2 cap2] w fun e w' => e = .returned (.bool true) ∧ Below w.heap.size w w' := by
  by_cases h : 1048576 < len ∨ 1048576 < len2
  · exact lawMT_long sl sl2 len cap len2 cap2 w h
  · exact lawMT sl sl2 len cap len2 cap2 w ht hr hr2 (by omega) (by omega)

end Go.Proofs.YtcganhhnkidddaaDoor
