/-
  THE LAWS' RECORDS: their list, at every code.
-/
import Derived.Test.YtnkdkbchendpmaaDoorDi
namespace Go.Proofs.YtnkdkbchendpmaaDoor
open Go.RowKit
set_option linter.unusedVariables false

set_option maxRecDepth 100000 in
set_option maxHeartbeats 1000000 in
theorem recs_none0 (cap : Nat) (w : World) :
    Calls Tryd.prog 10 #[.slice none 0 cap] w fun e w' => RsPost w e w' := by
  obtain ⟨i5, hi5, ha0, ha1, ha2⟩ := info_parts info5'
  obtain ⟨i8, hi8, hd0, hd1, hd2⟩ := info_parts info28'
  go_enter Tryd.func10, Tryd.ntmps10
  go_wp2
  go_loopw [3, 4] (fun s i wr => ∃ (k : Nat) (rs : List (Int × Value × List Int)), i = .int .i64 k ∧ k ≤ 4 ∧ rs.length ≤ k ∧ Hid (RecsIn w.heap.size wr s rs) ∧ Hid (Below w.heap.size w wr)) (fun _ i _ => 4 - (intOf i).toNat)
  case atStart => exact ⟨0, [], rfl, by omega, by simp, ⟨World.ownsRow_lit w #[] 0 (Nat.le_refl _) (Nat.zero_le _) rfl, by simp⟩, bA0 _ _⟩
  case round =>
    obtain ⟨k, rs, rfl, hk4, hrs, H1, H2⟩ := hrel
    by_cases hk : k < 4
    · have hk' : (k : Int) < 4 := by omega
      have hk8 : IntKind.u8.wrap (k : Int) = (k : Int) := by simp [IntKind.wrap, IntKind.signed, IntKind.bits]; omega
      have z0 := H2.out.size
      have own1 : (wr.alloc (.cells #[] 5)).ownsRow wr.heap.size 5 1 (.slice (some ⟨wr.heap.size, 0, none⟩) 0 0) 0 [] := World.ownsRow_lit wr #[] 0 (Nat.le_refl _) (Nat.zero_le _) rfl
      have B1 := Lib.hid (bA0 wr (.cells #[] 5))
      have za : wr.heap.size < (wr.alloc (.cells #[] 5)).heap.size := by simp
      go_wp2_with (first | (at_builtin; refine wpList_append_lies _ rfl (.tmp 13) (.tmp 16) 22 rfl wr.heap.size 5 i5 (.int .u8 0) 1 1 Tryd.underlying22 hi5 ha0 ha1 ha2 rfl (by decide) _ _ _ rfl (own1.alloc _) ⟨(wr.alloc (.cells #[] 5)).heap.size, 0, none⟩ 1 1 [.int .u8 k] (by simp [Act.eval]) rfl (cell_one_new _ _ _) (by intro u hu; simp at hu; subst hu; rfl) (by decide) (by unfold maxLen; omega) (by omega) (by simp <;> omega) (wr.heap.size + 2) (by simp) ?_))
      intro g2 cap2 wb own2 grow2 hg2 hlt2
      have B2 : Hid (Below wr.heap.size wr wb) := (B1.out.alloc (by omega) _).grown grow2 (by simp; omega) (fun j hj => by have := (own1.lt j hj).1; omega)
      have R2 := Lib.hid (rowIn_own own2 (by unfold maxLen; omega) (fun u hu => by
        simp at hu; exact ⟨k, hu, by omega, by omega⟩))
      have Q2 := Lib.hid (H1.out.below B2.out)
      clear own2 grow2 hg2 hlt2 own1 B1
      go_wp2_with fail
      refine (draw_any (some ⟨g2, 0, none⟩) 1 cap2 wb R2.out).mono ?_
      rintro e w3 ⟨kk, zs, v3, rfl, hz1, n3, b3⟩
      obtain ⟨sl3, cap3, rfl, i3⟩ := own_ints n3
      have zb := B2.out.size
      have B3 := Lib.hid (bT B2.out b3)
      have Q3 := Lib.hid (Q2.out.below b3)
      have N3 := Lib.hid (own_mono (B' := w.heap.size) n3 (by omega))
      have I3 := Lib.hid i3
      have z3 := b3.size
      clear n3 b3 i3 B2 Q2 R2
      have RR : Hid (Calls Tryd.prog 33 #[RV kk sl3 zs.length cap3] (w3.alloc (.cells #[.int .i64 kk, .slice sl3 zs.length cap3] 28)) fun e w' => e = .returned (.bool (recR kk zs)) ∧ Below (w3.alloc (.cells #[.int .i64 kk, .slice sl3 zs.length cap3] 28)).heap.size (w3.alloc (.cells #[.int .i64 kk, .slice sl3 zs.length cap3] 28)) w') := srr_any kk sl3 cap3 zs _ (by unfold maxLen; omega) (I3.out.below (bA0 _ _))
      generalize hq : zs.length = q at *
      have HQ := Lib.hid hq
      clear hq
      go_wp2_with fail
      refine RR.out.mono ?_
      rintro e w4 ⟨rfl, b4⟩
      have B4 := Lib.hid (bT H2.out (bT (bT B3.out (bA0 w3 (.cells #[.int .i64 kk, .slice sl3 q cap3] 28))) b4))
      have Q4 := Lib.hid ((Q3.out.below (bA0 w3 (.cells #[.int .i64 kk, .slice sl3 q cap3] 28))).below b4)
      have N4 : Hid (w4.ownsRow w.heap.size 2 1 (.slice sl3 q cap3) zs.length (valsZ zs)) := by have h := own_below (N3.out.alloc (.cells #[.int .i64 kk, .slice sl3 q cap3] 28)) b4; rw [← HQ.out] at h ⊢; exact h
      have V4 := Lib.hid ((VAt.new w3 kk (.slice sl3 q cap3)).of (b4.block _ (by simp)))
      clear RR b4 B3 Q3 N3 I3
      cases hr : recR kk zs
      · clear hr
        go_wp2
        go_roundw
        case rel => exact ⟨k + 1, rs, by go_num, by omega, by omega, Q4, B4⟩
        case measure => simp [intOf]; omega
      · have HR := Lib.hid hr
        clear hr
        obtain ⟨d0, d1, df, dl⟩ := V4.out.cells
        have hown := Q4.out.row
        have z4 := B4.out.size
        generalize hp : rs.length = p at *
        have HP := Lib.hid hp
        clear hp
        go_wp2_with (first | (at_builtin; refine wpList_append_lies _ rfl (.tmp 21) (.tmp 23) 23 rfl w.heap.size 28 i8 (.agg #[.int .i64 0, .slice none 0 0]) 2 32 Tryd.underlying23 hi8 hd0 hd1 hd2 rfl (by decide) _ _ _ rfl (hown.alloc _) ⟨w4.heap.size, 0, none⟩ 1 1 [.int .i64 kk, .slice sl3 q cap3] rfl rfl (cell_two_new _ _ _ _) (by intro u hu; simp at hu; rcases hu with rfl | rfl <;> rfl) (by decide) (by unfold maxLen; omega) (by omega) (by simp; omega) (w4.heap.size + 1) (by simp) ?_))
        intro g cap9 w9 own9 grow9 hg9 hlt9
        have R9 : Hid (RecsIn w.heap.size w9 (.slice (some ⟨g, 0, none⟩) (p + 1) cap9) (rs ++ [(kk, .slice sl3 q cap3, zs)])) := (Q4.out.below (bA0 w4 (.cells #[.int .i64 kk, .slice sl3 q cap3] 28))).add kk (.slice sl3 q cap3) zs (N4.out.alloc _) HR.out grow9 (by rw [HP.out]; exact own9)
        have B9 : Hid (Below w.heap.size w w9) := (B4.out.alloc (by omega) _).grown grow9 (by simp; omega) (fun j hj => (hown.lt j hj).1)
        have L9 : Hid ((rs ++ [(kk, Value.slice sl3 q cap3, zs)]).length ≤ k + 1) := by show _ ≤ _; simp; have := HP.out; omega
        clear own9 grow9 hg9 hlt9 hown d0 d1 df
        go_wp2
        go_roundw
        case rel => exact ⟨k + 1, rs ++ [(kk, .slice sl3 q cap3, zs)], by go_num, by omega, L9.out, R9, B9⟩
        case measure => simp [intOf]; omega
    · have hk' : ¬ (k : Int) < 4 := by omega
      have F : Hid (rs.length ≤ 4) := by show _ ≤ _; omega
      go_wp2
      go_ret
      exact ⟨rs, _, rfl, F.out, H1.out, H2.out⟩

set_option maxRecDepth 100000 in
set_option maxHeartbeats 1000000 in
theorem recs_none1 (ad : Addr) (cap : Nat) (w : World) :
    Calls Tryd.prog 10 #[.slice (some ad) 0 cap] w fun e w' => RsPost w e w' := by
  obtain ⟨i5, hi5, ha0, ha1, ha2⟩ := info_parts info5'
  obtain ⟨i8, hi8, hd0, hd1, hd2⟩ := info_parts info28'
  go_enter Tryd.func10, Tryd.ntmps10
  go_wp2
  go_loopw [3, 4] (fun s i wr => ∃ (k : Nat) (rs : List (Int × Value × List Int)), i = .int .i64 k ∧ k ≤ 4 ∧ rs.length ≤ k ∧ Hid (RecsIn w.heap.size wr s rs) ∧ Hid (Below w.heap.size w wr)) (fun _ i _ => 4 - (intOf i).toNat)
  case atStart => exact ⟨0, [], rfl, by omega, by simp, ⟨World.ownsRow_lit w #[] 0 (Nat.le_refl _) (Nat.zero_le _) rfl, by simp⟩, bA0 _ _⟩
  case round =>
    obtain ⟨k, rs, rfl, hk4, hrs, H1, H2⟩ := hrel
    by_cases hk : k < 4
    · have hk' : (k : Int) < 4 := by omega
      have hk8 : IntKind.u8.wrap (k : Int) = (k : Int) := by simp [IntKind.wrap, IntKind.signed, IntKind.bits]; omega
      have z0 := H2.out.size
      have own1 : (wr.alloc (.cells #[] 5)).ownsRow wr.heap.size 5 1 (.slice (some ⟨wr.heap.size, 0, none⟩) 0 0) 0 [] := World.ownsRow_lit wr #[] 0 (Nat.le_refl _) (Nat.zero_le _) rfl
      have B1 := Lib.hid (bA0 wr (.cells #[] 5))
      have za : wr.heap.size < (wr.alloc (.cells #[] 5)).heap.size := by simp
      go_wp2_with (first | (at_builtin; refine wpList_append_lies _ rfl (.tmp 13) (.tmp 16) 22 rfl wr.heap.size 5 i5 (.int .u8 0) 1 1 Tryd.underlying22 hi5 ha0 ha1 ha2 rfl (by decide) _ _ _ rfl (own1.alloc _) ⟨(wr.alloc (.cells #[] 5)).heap.size, 0, none⟩ 1 1 [.int .u8 k] (by simp [Act.eval]) rfl (cell_one_new _ _ _) (by intro u hu; simp at hu; subst hu; rfl) (by decide) (by unfold maxLen; omega) (by omega) (by simp <;> omega) (wr.heap.size + 2) (by simp) ?_))
      intro g2 cap2 wb own2 grow2 hg2 hlt2
      have B2 : Hid (Below wr.heap.size wr wb) := (B1.out.alloc (by omega) _).grown grow2 (by simp; omega) (fun j hj => by have := (own1.lt j hj).1; omega)
      have R2 := Lib.hid (rowIn_own own2 (by unfold maxLen; omega) (fun u hu => by
        simp at hu; exact ⟨k, hu, by omega, by omega⟩))
      have Q2 := Lib.hid (H1.out.below B2.out)
      clear own2 grow2 hg2 hlt2 own1 B1
      go_wp2_with fail
      refine (draw_any (some ⟨g2, 0, none⟩) 1 cap2 wb R2.out).mono ?_
      rintro e w3 ⟨kk, zs, v3, rfl, hz1, n3, b3⟩
      obtain ⟨sl3, cap3, rfl, i3⟩ := own_ints n3
      have zb := B2.out.size
      have B3 := Lib.hid (bT B2.out b3)
      have Q3 := Lib.hid (Q2.out.below b3)
      have N3 := Lib.hid (own_mono (B' := w.heap.size) n3 (by omega))
      have I3 := Lib.hid i3
      have z3 := b3.size
      clear n3 b3 i3 B2 Q2 R2
      have RR : Hid (Calls Tryd.prog 33 #[RV kk sl3 zs.length cap3] (w3.alloc (.cells #[.int .i64 kk, .slice sl3 zs.length cap3] 28)) fun e w' => e = .returned (.bool (recR kk zs)) ∧ Below (w3.alloc (.cells #[.int .i64 kk, .slice sl3 zs.length cap3] 28)).heap.size (w3.alloc (.cells #[.int .i64 kk, .slice sl3 zs.length cap3] 28)) w') := srr_any kk sl3 cap3 zs _ (by unfold maxLen; omega) (I3.out.below (bA0 _ _))
      generalize hq : zs.length = q at *
      have HQ := Lib.hid hq
      clear hq
      go_wp2_with fail
      refine RR.out.mono ?_
      rintro e w4 ⟨rfl, b4⟩
      have B4 := Lib.hid (bT H2.out (bT (bT B3.out (bA0 w3 (.cells #[.int .i64 kk, .slice sl3 q cap3] 28))) b4))
      have Q4 := Lib.hid ((Q3.out.below (bA0 w3 (.cells #[.int .i64 kk, .slice sl3 q cap3] 28))).below b4)
      have N4 : Hid (w4.ownsRow w.heap.size 2 1 (.slice sl3 q cap3) zs.length (valsZ zs)) := by have h := own_below (N3.out.alloc (.cells #[.int .i64 kk, .slice sl3 q cap3] 28)) b4; rw [← HQ.out] at h ⊢; exact h
      have V4 := Lib.hid ((VAt.new w3 kk (.slice sl3 q cap3)).of (b4.block _ (by simp)))
      clear RR b4 B3 Q3 N3 I3
      cases hr : recR kk zs
      · clear hr
        go_wp2
        go_roundw
        case rel => exact ⟨k + 1, rs, by go_num, by omega, by omega, Q4, B4⟩
        case measure => simp [intOf]; omega
      · have HR := Lib.hid hr
        clear hr
        obtain ⟨d0, d1, df, dl⟩ := V4.out.cells
        have hown := Q4.out.row
        have z4 := B4.out.size
        generalize hp : rs.length = p at *
        have HP := Lib.hid hp
        clear hp
        go_wp2_with (first | (at_builtin; refine wpList_append_lies _ rfl (.tmp 21) (.tmp 23) 23 rfl w.heap.size 28 i8 (.agg #[.int .i64 0, .slice none 0 0]) 2 32 Tryd.underlying23 hi8 hd0 hd1 hd2 rfl (by decide) _ _ _ rfl (hown.alloc _) ⟨w4.heap.size, 0, none⟩ 1 1 [.int .i64 kk, .slice sl3 q cap3] rfl rfl (cell_two_new _ _ _ _) (by intro u hu; simp at hu; rcases hu with rfl | rfl <;> rfl) (by decide) (by unfold maxLen; omega) (by omega) (by simp; omega) (w4.heap.size + 1) (by simp) ?_))
        intro g cap9 w9 own9 grow9 hg9 hlt9
        have R9 : Hid (RecsIn w.heap.size w9 (.slice (some ⟨g, 0, none⟩) (p + 1) cap9) (rs ++ [(kk, .slice sl3 q cap3, zs)])) := (Q4.out.below (bA0 w4 (.cells #[.int .i64 kk, .slice sl3 q cap3] 28))).add kk (.slice sl3 q cap3) zs (N4.out.alloc _) HR.out grow9 (by rw [HP.out]; exact own9)
        have B9 : Hid (Below w.heap.size w w9) := (B4.out.alloc (by omega) _).grown grow9 (by simp; omega) (fun j hj => (hown.lt j hj).1)
        have L9 : Hid ((rs ++ [(kk, Value.slice sl3 q cap3, zs)]).length ≤ k + 1) := by show _ ≤ _; simp; have := HP.out; omega
        clear own9 grow9 hg9 hlt9 hown d0 d1 df
        go_wp2
        go_roundw
        case rel => exact ⟨k + 1, rs ++ [(kk, .slice sl3 q cap3, zs)], by go_num, by omega, L9.out, R9, B9⟩
        case measure => simp [intOf]; omega
    · have hk' : ¬ (k : Int) < 4 := by omega
      have F : Hid (rs.length ≤ 4) := by show _ ≤ _; omega
      go_wp2
      go_ret
      exact ⟨rs, _, rfl, F.out, H1.out, H2.out⟩

theorem recs_none (sl : Option Addr) (cap : Nat) (w : World) : Calls Tryd.prog 10 #[.slice sl 0 cap] w fun e w' => RsPost w e w' := by
  cases sl with
  | none => exact recs_none0 cap w
  | some ad => exact recs_none1 ad cap w

theorem recs_any (sl : Option Addr) (len cap : Nat) (w : World) (hl : len ≤ 1048576) (hr : RowIn w sl len) :
    Calls Tryd.prog 10 #[.slice sl len cap] w fun e w' => RsPost w e w' := by
  rcases hr.split with rfl | ⟨c, o, rfl, hc, hz⟩
  · exact recs_none sl cap w
  · by_cases h0 : 0 < len
    · exact recs_some c o len cap w h0 hl hc hz
    · obtain rfl : len = 0 := by omega
      exact recs_none _ cap w
end Go.Proofs.YtnkdkbchendpmaaDoor
