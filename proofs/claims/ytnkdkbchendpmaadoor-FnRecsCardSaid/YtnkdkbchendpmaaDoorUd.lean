/-
  THE LAW FnRecs: its walk.
-/
import Derived.Test.YtnkdkbchendpmaaDoorUc
import Derived.Test.YtnkdkbchendpmaaDoorTc
import Derived.Deep.RegionHeldLaw
namespace Go.Proofs.YtnkdkbchendpmaaDoor
open Go.RowKit
set_option linter.unusedVariables false

theorem catB_len (l : List (Int × List Int)) (h : ∀ r ∈ l, recR r.1 r.2 = true) : (catB l).length ≤ 489 * l.length := by
  induction l with
  | nil => simp [catB]
  | cons a r ih =>
    obtain ⟨k, zs⟩ := a
    have h1 : 8 ≤ (recB k zs).length ∧ (recB k zs).length ≤ 489 := recB_bounds (h (k, zs) (by simp))
    have h2 := ih (fun x hx => h x (by simp [hx]))
    simp only [catB, List.length_append, List.length_cons]; omega
theorem catB_take (l : List (Int × List Int)) (j : Nat) (k : Int) (zs : List Int) (h : l[j]? = some (k, zs)) : catB (l.take (j + 1)) = catB (l.take j) ++ recB k zs := by
  rw [List.take_add_one, h, catB_add]; simp [catB]
theorem RecsIn.right {B : Nat} {w : World} {v : Value} {rs : List (Int × Value × List Int)} (h : RecsIn B w v rs) : ∀ r ∈ bare rs, recR r.1 r.2 = true := by
  intro r hr
  obtain ⟨x, hx, rfl⟩ := List.mem_map.1 hr
  exact (h.each x hx).2
/-- The records of a list whose slice is known. -/
theorem RecsIn.get {B : Nat} {w : World} {sl : Option Addr} {n cap : Nat} {rs : List (Int × Value × List Int)} (h : RecsIn B w (.slice sl n cap) rs) (hn : rs.length = n) (i : Nat) (hi : i < n) :
    ∃ g k sl2 cap2 zs, sl = some ⟨g, 0, none⟩ ∧ g < w.heap.size ∧ (bare rs)[i]? = some (k, zs) ∧ w.cell? ⟨g, i * 2, none⟩ = some (.int .i64 k) ∧ w.cell? ⟨g, i * 2 + 1, none⟩ = some (.slice sl2 zs.length cap2) ∧ Ints w sl2 zs ∧ recR k zs = true := by
  obtain ⟨g, c, k, sl2, cap2, zs, e, r⟩ := h.at i (by omega)
  simp only [Value.slice.injEq] at e
  exact ⟨g, k, sl2, cap2, zs, e.1, r⟩

theorem x30_new (w : World) (a b c : Value) : (w.alloc (.cells #[a, b, c] 30)).cell? ⟨w.heap.size, 0, none⟩ = some a ∧ w.heap.size < (w.alloc (.cells #[a, b, c] 30)).heap.size := by
  have h : (w.alloc (.cells #[a, b, c] 30)).heap[w.heap.size]? = some (.cells #[a, b, c] 30) := by show (w.heap.push _)[w.heap.size]? = _; simp
  exact ⟨by simp only [World.cell?, h]; rfl, by simp⟩
/-- What one comparison reads. -/
abbrev SixAt (X g1 g3 i : Nat) (vl : Value) (k : Int) (v1 v3 : Value) (w' : World) : Prop :=
  X < w'.heap.size ∧ g1 < w'.heap.size ∧ g3 < w'.heap.size ∧ w'.cell? ⟨X, 0, none⟩ = some vl ∧ w'.cell? ⟨g1, i * 2, none⟩ = some (.int .i64 k) ∧ w'.cell? ⟨g1, i * 2 + 1, none⟩ = some v1 ∧ w'.cell? ⟨g3, i * 2, none⟩ = some (.int .i64 k) ∧ w'.cell? ⟨g3, i * 2 + 1, none⟩ = some v3
theorem SixAt.below {X g1 g3 i : Nat} {vl : Value} {k : Int} {v1 v3 : Value} {w w' : World} (h : SixAt X g1 g3 i vl k v1 v3 w) (hb : Below w.heap.size w w') : SixAt X g1 g3 i vl k v1 v3 w' :=
  ⟨Nat.lt_of_lt_of_le h.1 hb.size, Nat.lt_of_lt_of_le h.2.1 hb.size, Nat.lt_of_lt_of_le h.2.2.1 hb.size, (hb.cell h.1).trans h.2.2.2.1, (hb.cell h.2.1).trans h.2.2.2.2.1, (hb.cell h.2.1).trans h.2.2.2.2.2.1, (hb.cell h.2.2.1).trans h.2.2.2.2.2.2.1, (hb.cell h.2.2.1).trans h.2.2.2.2.2.2.2⟩

set_option maxRecDepth 100000 in
set_option maxHeartbeats 4000000 in
theorem law3 (sl : Option Addr) (len cap : Nat) (w : World) (ht : U8 w) (hl : len ≤ 1048576) (hr : RowIn w sl len) :
    Calls Tryd.prog 3 #[.slice sl len cap] w fun e w' => e = .returned (.bool true) ∧ Below w.heap.size w w' := by
  have hl' : ¬ (1048576 : Int) < (len : Int) := by omega
  have HR := Lib.hid hr
  have HT := Lib.hid ht
  clear ht hr
  go_enter Tryd.func3, Tryd.ntmps3
  go_wp2_with fail
  refine (recs_any sl len cap _ hl HR.out).mono ?_
  rintro e w1 ⟨rs, v, rfl, hrs, R, b1⟩
  obtain ⟨sl1, cap1, rfl⟩ := R.form
  have R1 := Lib.hid R
  have B1 := Lib.hid b1
  clear R b1
  have RA := Lib.hid R1.out.right
  have hbl : (bare rs).length = rs.length := by simp [bare]
  generalize hN : rs.length = n at *
  have HN := Lib.hid hN
  have HBL := Lib.hid hbl
  clear hN hbl
  have CL : Hid (∀ j, (catB ((bare rs).take j)).length ≤ 1956) := fun j => by
    have := catB_len ((bare rs).take j) (fun r hr => RA.out r (List.mem_of_mem_take hr))
    rw [List.length_take, HBL.out] at this
    have : min j n ≤ 4 := by omega
    omega
  go_wp2_with fail
  go_loopw [4, 5, 6] (fun t la i wr => ∃ (j : Nat) (T : ByteArray), t = .string T ∧ i = .int .i64 j ∧ la = .int .i64 (catB ((bare rs).take (j - 1))).length ∧ j ≤ n ∧ Hid (T.data.toList = catB ((bare rs).take j)) ∧ Hid (Below w1.heap.size w1 wr)) (fun _ _ i _ => n - (intOf i).toNat)
  case atStart => exact ⟨0, _, rfl, rfl, rfl, Nat.zero_le _, rfl, Below.refl _ _⟩
  case round =>
    obtain ⟨j, T, rfl, rfl, rfl, hj, ET, BW⟩ := hrel
    have hj0 : (0 : Int) ≤ (j : Int) := by omega
    have hTl : T.size = (catB ((bare rs).take j)).length := by rw [← ET.out]; simp
    by_cases hlt : j < n
    · have hlt' : (j : Int) < (n : Int) := by omega
      obtain ⟨g, k, sl2, cap2, zs, rfl, hg, hk, c0, c1, hI, hrr⟩ := R1.out.get HN.out j hlt
      have d0 := (BW.out.cell hg).trans c0
      have d1 := (BW.out.cell hg).trans c1
      have eT : recT k zs = recB k zs := by unfold recT; rw [if_pos hrr]
      have IB : Hid (Calls Tryd.prog 11 #[RV k sl2 zs.length cap2] wr fun e w' => e = .returned (.string ⟨(recB k zs).toArray⟩) ∧ Below wr.heap.size wr w') := by
        have := irb_any k sl2 cap2 zs wr (HT.out.below (bT B1.out BW.out)) (hI.below BW.out); rwa [eT] at this
      have ES : Hid ((T ++ ⟨(recB k zs).toArray⟩ : ByteArray).data.toList = catB ((bare rs).take (j + 1))) := by
        show _ = _
        rw [catB_take _ _ _ _ hk, ← ET.out]; simp
      have hS : ((⟨(recB k zs).toArray⟩ : ByteArray).size) ≤ 489 := by have := (recB_bounds hrr).2; simpa [ByteArray.size] using this
      have hT4 := CL.out j
      rw [← hTl] at hT4
      generalize (⟨(recB k zs).toArray⟩ : ByteArray) = S at *
      have hTS : ¬ T.size + S.size > 9223372036854775807 := by omega
      have HTL := Lib.hid hTl
      clear c0 c1 hI hrr eT hk hTl
      generalize zs.length = q at *
      go_wp2_with fail
      refine IB.out.mono ?_
      rintro e w2 ⟨rfl, b2⟩
      have BW2 := Lib.hid (bT BW.out b2)
      clear b2 IB d0 d1
      go_wp2_with fail
      go_roundw
      case rel => exact ⟨j + 1, T ++ S, rfl, by go_num, by rw [Nat.add_sub_cancel, HTL.out], by omega, ES, BW2⟩
      case measure => simp [intOf]; omega
    · have hlt' : ¬ (j : Int) < (n : Int) := by omega
      obtain rfl : j = n := by omega
      have eall : (bare rs).take j = bare rs := List.take_of_length_le (by rw [HBL.out]; omega)
      rw [eall] at ET hTl
      have RC : Hid (Calls Tryd.prog 12 #[.string T] wr fun e w' => ∃ rs2 v2, e = .returned (OV v2 T.size 0) ∧ bare rs2 = bare rs ∧ RecsIn wr.heap.size w' v2 rs2 ∧ Below wr.heap.size wr w') := by
        refine (rcs_any T wr (HT.out.below (bT B1.out BW.out))).mono ?_
        rintro e w' ⟨rs2, v2, u2, c2, h1, rfl, h3, h4⟩
        rw [ET.out] at h1
        have hx := CL.out j
        rw [eall] at hx
        obtain ⟨e1, e2, e3⟩ := h1.uniq (reads_all (bare rs) RA.out (by omega))
        exact ⟨rs2, v2, by rw [e2, e3, hTl], e1, h3, h4⟩
      have HTL := Lib.hid hTl
      have EA := Lib.hid eall
      clear hTl eall
      have hT5 : T.size ≤ 1956 := by rw [HTL.out]; have := CL.out j; rwa [EA.out] at this
      go_wp2_with fail
      refine RC.out.mono ?_
      rintro e w2 ⟨rs2, v2, rfl, hb2, R2', b2⟩
      have hn2 : rs2.length = j := by
        have := congrArg List.length hb2
        rw [HBL.out] at this
        simpa [bare] using this
      obtain ⟨sl3, cap3, rfl⟩ := R2'.form
      rw [hn2] at R2' ⊢
      have HB2 := Lib.hid hb2
      have HN2 := Lib.hid hn2
      have R2 := Lib.hid R2'
      have BW2 := Lib.hid (bT BW.out b2)
      clear hb2 hn2 R2' b2 RC
      generalize hLL : (catB ((bare rs).take (j - 1))).length = L at *
      have HLL := Lib.hid hLL
      clear hLL
      have HX := Lib.hid (x30_new w2 (.slice sl3 j cap3) (.int .i64 T.size) (.int .i64 0))
      have BX := Lib.hid (bA0 w2 (.cells #[.slice sl3 j cap3, .int .i64 T.size, .int .i64 0] 30))
      go_wp2_with fail
      generalize hW : w2.alloc (.cells #[.slice sl3 j cap3, .int .i64 T.size, .int .i64 0] 30) = W at *
      clear hW
      go_loopw [8] (fun i wr => ∃ p : Nat, i = .int .i64 p ∧ p ≤ j ∧ Hid (Below W.heap.size W wr)) (fun i _ => j - (intOf i).toNat)
      case atStart => exact ⟨0, rfl, Nat.zero_le _, Below.refl _ _⟩
      case round =>
        obtain ⟨p, rfl, hp, BQ⟩ := hrel
        have hp0 : (0 : Int) ≤ (p : Int) := by omega
        by_cases hlp : p < j
        · have hlp' : (p : Int) < (j : Int) := by omega
          obtain ⟨g, k, sl4, cap4, zs, rfl, hg, hk, c0, c1, hI, hrr⟩ := R1.out.get HN.out p hlp
          obtain ⟨g3, k3, sl5, cap5, zs3, rfl, hg3, hk3, f0, f1, hI3, -⟩ := R2.out.get HN2.out p hlp
          rw [HB2.out, hk] at hk3
          simp only [Option.some.injEq, Prod.mk.injEq] at hk3
          obtain ⟨rfl, rfl⟩ := hk3
          have BA := Lib.hid (bT (bT BW2.out BX.out) BQ.out)
          have BC := Lib.hid (bT BX.out BQ.out)
          have SM : Hid (∀ w', Below wr.heap.size wr w' → Calls Tryd.prog 13 #[.slice sl5 zs.length cap5, .slice sl4 zs.length cap4] w' fun e w'' => e = .returned (.bool true) ∧ Below wr.heap.size wr w'') := fun w' hb => by
            refine (same_any sl5 sl4 cap5 cap4 zs w' (recR_parts hrr).2.2.1 (hI3.below (bT BC.out hb)) (hI.below (bT BA.out hb))).mono ?_
            rintro e w'' ⟨h1, h2⟩
            exact ⟨h1, bT hb h2⟩
          have KS : SixAt w2.heap.size g g3 p (.slice (some ⟨g3, 0, none⟩) j cap3) k (.slice sl4 zs.length cap4) (.slice sl5 zs.length cap5) wr :=
            ⟨Nat.lt_of_lt_of_le HX.out.2 BQ.out.size, Nat.lt_of_lt_of_le hg BA.out.size, Nat.lt_of_lt_of_le hg3 BC.out.size, (BQ.out.cell HX.out.2).trans HX.out.1, (BA.out.cell hg).trans c0, (BA.out.cell hg).trans c1, (BC.out.cell hg3).trans f0, (BC.out.cell hg3).trans f1⟩
          have HKS := Lib.hid KS
          clear c0 c1 f0 f1 hI hI3 hrr hk hg hg3 BC BA
          generalize zs.length = q at *
          obtain ⟨s1, s2, s3, s4, s5, s6, s7, s8⟩ := KS
          go_wp2_with fail
          go_region_held_law (fun w' => w2.heap.size < w'.heap.size ∧ g < w'.heap.size ∧ g3 < w'.heap.size ∧ w'.cell? ⟨w2.heap.size, 0, none⟩ = some (.slice (some ⟨g3, 0, none⟩) j cap3) ∧ w'.cell? ⟨g, p * 2, none⟩ = some (.int .i64 k) ∧ w'.cell? ⟨g, p * 2 + 1, none⟩ = some (.slice sl4 q cap4) ∧ w'.cell? ⟨g3, p * 2, none⟩ = some (.int .i64 k) ∧ w'.cell? ⟨g3, p * 2 + 1, none⟩ = some (.slice sl5 q cap5)) (first | exact HKS.out | exact HKS5.out) (first | (go_at_call 13; refine (SM.out _ (by first | exact Below.refl _ _ | exact (Below.refl _ _).drew | exact Go.below_drewN (Below.refl _ _) _)).mono ?_; rintro e w5 ⟨rfl, b5⟩; have HKS5 := Lib.hid (HKS.out.below b5)))
          have BQ5 := Lib.hid (bT BQ.out b5)
          clear b5 HKS5 HKS SM s1 s2 s3 s4 s5 s6 s7 s8
          go_wp2_with fail
          go_roundw
          case rel => exact ⟨p + 1, by go_num, by omega, BQ5⟩
          case measure => simp [intOf]; omega
        · have hlp' : ¬ (p : Int) < (j : Int) := by omega
          have BE := Lib.hid (bT (bT B1.out (bT BW2.out BX.out)) BQ.out)
          by_cases hj1 : j = 0
          · have hje : ((j : Int) == 0) = true := by rw [hj1]; rfl
            have hje' : (j : Int) = 0 := by omega
            go_wp2
            go_ret
            exact ⟨rfl, BE.out⟩
          · have hje : ((j : Int) == 0) = false := by rw [beq_eq_false_iff_ne]; omega
            obtain ⟨⟨k, zs⟩, hk⟩ : ∃ y, (bare rs)[j - 1]? = some y := ⟨_, List.getElem?_eq_getElem (by rw [HBL.out]; omega)⟩
            have hrk : recR k zs = true := RA.out (k, zs) (List.mem_of_getElem? hk)
            have ec : catB (bare rs) = catB ((bare rs).take (j - 1)) ++ recB k zs := by
              have := catB_take (bare rs) (j - 1) k zs hk
              rwa [show j - 1 + 1 = j by omega, EA.out] at this
            have hbd := recB_bounds hrk
            have hTL : T.size = L + (recB k zs).length := by rw [HTL.out, ec, List.length_append, HLL.out]
            have CUT : Hid (∀ c : Nat, L < c → c < T.size → Reads (T.extract 0 c).data.toList ((bare rs).take (j - 1)) L 6) := fun c h1 h2 => by
              have e1 : (T.extract 0 c).data.toList = catB ((bare rs).take (j - 1)) ++ (recB k zs).take (c - L) := by
                rw [Lib.extract_data, List.drop_zero, Nat.sub_zero, ET.out, ec, List.take_append, HLL.out, List.take_of_length_le (by rw [HLL.out]; omega)]
              rw [e1]
              have := reads_cut ((bare rs).take (j - 1)) k zs (fun r hr => RA.out r (List.mem_of_mem_take hr)) hrk (c - L) (by omega) (by omega) (by rw [← ec, ← HTL.out]; omega)
              rwa [HLL.out] at this
            have RC2 : Hid (∀ c : Nat, L < c → c < T.size → ∀ wx, Below wr.heap.size wr wx → Calls Tryd.prog 12 #[.string (T.extract 0 c)] wx fun e w' => ∃ sl6 cap6, e = .returned (OV (.slice sl6 (j - 1) cap6) L 6) ∧ Below w.heap.size w w') := fun c h1 h2 wx hb => by
              refine (rcs_any _ wx (HT.out.below (bT BE.out hb))).mono ?_
              rintro e w' ⟨rs3, v3, u3, c3, g1, rfl, g3, g4⟩
              obtain ⟨e1, e2, e3⟩ := g1.uniq (CUT.out c h1 h2)
              obtain ⟨sl6, cap6, rfl⟩ := g3.form
              have hl3 : rs3.length = j - 1 := by
                have := congrArg List.length e1
                rw [List.length_take, HBL.out] at this
                simp [bare] at this; omega
              exact ⟨sl6, cap6, by rw [e2, e3, hl3], bT (bT BE.out hb) g4⟩
            have hL2 : ¬ (T.size : Int) < (L : Int) + 2 := by omega
            have hL9 : L ≤ 1956 := by omega
            have hTb : L + 8 ≤ T.size := by omega
            have HTL2 := Lib.hid hTL
            clear hTL hk hrk ec hbd CUT
            go_wp2_with fail
            refine (at_any sl len cap 3 _ wr (by omega) (by omega) (HR.out.below BE.out)).mono ?_
            rintro e w4 ⟨r, rfl, r0, r1, rfl⟩
            obtain ⟨c, hc⟩ : ∃ c : Nat, (L : Int) + 1 + r = (c : Int) := ⟨((L : Int) + 1 + r).toNat, by omega⟩
            have c1 : L < c := by omega
            have c2 : c < T.size := by omega
            have hr9 : r ≤ 2000 := by omega
            have RC3 := Lib.hid (RC2.out c c1 c2 w4 (Below.refl _ _))
            have HC := Lib.hid hc
            have hc0 : (0 : Int) ≤ (L : Int) + 1 + r := by omega
            have hc9 : (L : Int) + 1 + r ≤ (T.size : Int) := by omega
            clear hc r1 RC2
            go_wp2_with fail
            rw [show T.extract 0 ((L : Int) + 1 + r).toNat = T.extract 0 c by rw [HC.out, Int.toNat_natCast]]
            refine RC3.out.mono ?_
            rintro e w6 ⟨sl6, cap6, rfl, b6⟩
            have B6 := Lib.hid b6
            have hmj : (j : Int) - 1 = ((j - 1 : Nat) : Int) := by omega
            clear b6 RC3
            generalize j - 1 = m at *
            go_wp2
            go_ret
            exact ⟨rfl, B6.out.alloc B6.out.size _⟩

set_option maxRecDepth 100000 in
set_option maxHeartbeats 1000000 in
theorem law3_long (sl : Option Addr) (len cap : Nat) (w : World) (hl : 1048576 < len) :
    Calls Tryd.prog 3 #[.slice sl len cap] w fun e w' => e = .returned (.bool true) ∧ Below w.heap.size w w' := by
  have hl' : (1048576 : Int) < (len : Int) := by omega
  go_enter Tryd.func3, Tryd.ntmps3
  go_wp2
  go_ret
  exact ⟨rfl, Below.refl _ _⟩
theorem law3_all (sl : Option Addr) (len cap : Nat) (w : World) (ht : U8 w) (hr : RowIn w sl len) :
    Calls Tryd.prog 3 #[.slice sl len cap] w fun e w' => e = .returned (.bool true) ∧ Below w.heap.size w w' := by
  by_cases h : len ≤ 1048576
  · exact law3 sl len cap w ht h hr
  · exact law3_long sl len cap w (by omega)

end Go.Proofs.YtnkdkbchendpmaaDoor
