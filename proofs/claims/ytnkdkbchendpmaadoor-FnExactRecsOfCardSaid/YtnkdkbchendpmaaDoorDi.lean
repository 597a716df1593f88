/-
  THE LAWS' RECORDS: their list.
-/
import Derived.Test.YtnkdkbchendpmaaDoorDh
namespace Go.Proofs.YtnkdkbchendpmaaDoor
open Go.RowKit
set_option linter.unusedVariables false

theorem cell_add {B : Nat} {w w' : World} {ad : Addr} {j : Nat} {u : Value} (hb : Below B w w') (hc : ad.block < B) (h : w.cell? (ad.add j) = some u) : w'.cell? (ad.add j) = some u := by
  have e : (ad.add j).block = ad.block := by unfold Addr.add; split <;> rfl
  exact (World.cell?_of_block (w := w) (by rw [e]; exact hb.block _ hc)).trans h
theorem cell_two_new (w : World) (a b : Value) (t : TypeId) : ∀ (j : Nat) (u : Value), [a, b][j]? = some u → (w.alloc (.cells #[a, b] t)).cell? ((⟨w.heap.size, 0, none⟩ : Addr).add j) = some u := by
  intro j u hj
  match j, hj with
  | 0, hj =>
    simp at hj
    subst hj
    simp [Addr.add]
  | 1, hj =>
    simp at hj
    subst hj
    simp [Addr.add]
  | j + 2, hj => simp at hj
def RsPost (w : World) (e : Ending) (w' : World) : Prop :=
  ∃ (rs : List (Int × Value × List Int)) (v : Value), e = .returned v ∧ rs.length ≤ 4 ∧ RecsIn w.heap.size w' v rs ∧ Below w.heap.size w w'

set_option maxRecDepth 100000 in
set_option maxHeartbeats 1000000 in
theorem recs_some (c o len cap : Nat) (w : World) (hlen : 0 < len) (hl : len ≤ 1048576) (hc : c < w.heap.size) (hz : ∀ i, i < len → ∃ z : Int, 0 ≤ z ∧ z ≤ 255 ∧ w.cell? ⟨c, o + i, none⟩ = some (.int .u8 z)) :
    Calls Tryd.prog 10 #[.slice (some ⟨c, o, none⟩) len cap] w fun e w' => RsPost w e w' := by
  obtain ⟨i5, hi5, ha0, ha1, ha2⟩ := info_parts info5'
  obtain ⟨i8, hi8, hd0, hd1, hd2⟩ := info_parts info28'
  have HC := Lib.hid (newsOf_cell hz)
  have HB := Lib.hid (newsOf_byte hz)
  have HL := Lib.hid (newsOf_len w c o len)
  clear hz
  generalize newsOf w c o len = nb at *
  go_enter Tryd.func10, Tryd.ntmps10
  go_wp2
  go_loopw [3, 4] (fun s i wr => ∃ (k : Nat) (rs : List (Int × Value × List Int)), i = .int .i64 k ∧ k ≤ 4 ∧ rs.length ≤ k ∧ Hid (RecsIn w.heap.size wr s rs) ∧ Hid (Below w.heap.size w wr)) (fun _ i _ => 4 - (intOf i).toNat)
  case atStart => exact ⟨0, [], rfl, by omega, by simp, ⟨World.ownsRow_lit w #[] 0 (Nat.le_refl _) (Nat.zero_le _) rfl, by simp⟩, bA0 _ _⟩
  case round =>
    obtain ⟨k, rs, rfl, hk4, hrs, H1, H2⟩ := hrel
    by_cases hk : k < 4
    · have hk' : (k : Int) < 4 := by omega
      have hk8 : IntKind.u8.wrap (k : Int) = (k : Int) := by simp [IntKind.wrap, IntKind.signed, IntKind.bits]; omega
      have z0 := H2.out.size
      go_wp2_with (first | (at_builtin; refine wpList_append_lies _ rfl (.tmp 11) (.tmp 12) 22 rfl wr.heap.size 5 i5 (.int .u8 0) 1 1 Tryd.underlying22 hi5 ha0 ha1 ha2 rfl (by decide) _ _ _ rfl (World.ownsRow_lit wr #[] 0 (Nat.le_refl _) (Nat.zero_le _) rfl) ⟨c, o, none⟩ len cap nb rfl (by rw [HL.out, Nat.mul_one]) (fun j u hj => cell_add (bA0 wr _) (by show c < _; omega) (cell_add H2.out hc (HC.out j u hj))) (fun u hu => by obtain ⟨z, e, _⟩ := HB.out u hu; rw [e]; rfl) hlen (by unfold maxLen; omega) (by omega) (by simp) (wr.heap.size + 1) (by simp) ?_))
      intro g1 cap1 wa own1 grow1 hg1 hlt1
      have B1 := Lib.hid ((bA0 wr (.cells #[] 5)).grown grow1 (by simp) (fun j hj => by simp [Value.ownBlock] at hj; omega))
      have za : wr.heap.size < wa.heap.size := by have := grow1.size; simp at this; omega
      clear grow1 hg1 hlt1
      go_wp2_with (first | (at_builtin; refine wpList_append_lies _ rfl (.tmp 13) (.tmp 16) 22 rfl wr.heap.size 5 i5 (.int .u8 0) 1 1 Tryd.underlying22 hi5 ha0 ha1 ha2 rfl (by decide) _ _ _ rfl (own1.alloc _) ⟨wa.heap.size, 0, none⟩ 1 1 [.int .u8 k] rfl rfl (cell_one_new _ _ _) (by intro u hu; simp at hu; subst hu; rfl) (by decide) (by unfold maxLen; omega) (by omega) (by simp; omega) (wa.heap.size + 1) (by simp) ?_))
      intro g2 cap2 wb own2 grow2 hg2 hlt2
      have B2 : Hid (Below wr.heap.size wr wb) := (B1.out.alloc (by omega) _).grown grow2 (by simp; omega) (fun j hj => by have := (own1.lt j hj).1; omega)
      have R2 := Lib.hid (rowIn_own own2 (by unfold maxLen; omega) (fun u hu => by
        rcases List.mem_append.1 hu with h | h
        · exact HB.out u h
        · simp at h; exact ⟨k, h, by omega, by omega⟩))
      have Q2 := Lib.hid (H1.out.below B2.out)
      clear own2 grow2 hg2 hlt2 own1 B1
      go_wp2_with fail
      refine (draw_any (some ⟨g2, 0, none⟩) (len + 1) cap2 wb R2.out).mono ?_
      rintro e w3 ⟨kk, zs, v3, rfl, hz1, n3, b3⟩
      obtain ⟨sl3, cap3, rfl, i3⟩ := own_ints n3
      have zb := B2.out.size
      have B3 := Lib.hid (bT B2.out b3)
      have Q3 := Lib.hid (Q2.out.below b3)
      have N3 := Lib.hid (own_mono (B' := w.heap.size) n3 (by omega))
      have I3 := Lib.hid i3
      have z3 := b3.size
      clear n3 b3 i3 B2 Q2 R2
      have RR : Hid (Calls Tryd.prog 33 #[RV kk sl3 zs.length cap3] (w3.alloc (.cells #[.int .i64 kk, .slice sl3 zs.length cap3] 28)) fun e w' => e = .returned (.bool (recR kk zs)) ∧ Below (w3.alloc (.cells #[.int .i64 kk, .slice sl3 zs.length cap3] 28)).heap.size (w3.alloc (.cells #[.int .i64 kk, .slice sl3 zs.length cap3] 28)) w') := srr_any kk sl3 cap3 zs _ (by unfold maxLen; omega) (I3.out.below (bA0 _ _))
      generalize hq : zs.length = q at *
      have HQ := Lib.hid hq
      clear hq
      go_wp2_with fail
      refine RR.out.mono ?_
      rintro e w4 ⟨rfl, b4⟩
      have B4 := Lib.hid (bT H2.out (bT (bT B3.out (bA0 w3 (.cells #[.int .i64 kk, .slice sl3 q cap3] 28))) b4))
      have Q4 := Lib.hid ((Q3.out.below (bA0 w3 (.cells #[.int .i64 kk, .slice sl3 q cap3] 28))).below b4)
      have N4 : Hid (w4.ownsRow w.heap.size 2 1 (.slice sl3 q cap3) zs.length (valsZ zs)) := by have h := own_below (N3.out.alloc (.cells #[.int .i64 kk, .slice sl3 q cap3] 28)) b4; rw [← HQ.out] at h ⊢; exact h
      have V4 := Lib.hid ((VAt.new w3 kk (.slice sl3 q cap3)).of (b4.block _ (by simp)))
      clear RR b4 B3 Q3 N3 I3
      cases hr : recR kk zs
      · clear hr
        go_wp2
        go_roundw
        case rel => exact ⟨k + 1, rs, by go_num, by omega, by omega, Q4, B4⟩
        case measure => simp [intOf]; omega
      · have HR := Lib.hid hr
        clear hr
        obtain ⟨d0, d1, df, dl⟩ := V4.out.cells
        have hown := Q4.out.row
        have z4 := B4.out.size
        generalize hp : rs.length = p at *
        have HP := Lib.hid hp
        clear hp
        go_wp2_with (first | (at_builtin; refine wpList_append_lies _ rfl (.tmp 21) (.tmp 23) 23 rfl w.heap.size 28 i8 (.agg #[.int .i64 0, .slice none 0 0]) 2 32 Tryd.underlying23 hi8 hd0 hd1 hd2 rfl (by decide) _ _ _ rfl (hown.alloc _) ⟨w4.heap.size, 0, none⟩ 1 1 [.int .i64 kk, .slice sl3 q cap3] rfl rfl (cell_two_new _ _ _ _) (by intro u hu; simp at hu; rcases hu with rfl | rfl <;> rfl) (by decide) (by unfold maxLen; omega) (by omega) (by simp; omega) (w4.heap.size + 1) (by simp) ?_))
        intro g cap9 w9 own9 grow9 hg9 hlt9
        have R9 : Hid (RecsIn w.heap.size w9 (.slice (some ⟨g, 0, none⟩) (p + 1) cap9) (rs ++ [(kk, .slice sl3 q cap3, zs)])) := (Q4.out.below (bA0 w4 (.cells #[.int .i64 kk, .slice sl3 q cap3] 28))).add kk (.slice sl3 q cap3) zs (N4.out.alloc _) HR.out grow9 (by rw [HP.out]; exact own9)
        have B9 : Hid (Below w.heap.size w w9) := (B4.out.alloc (by omega) _).grown grow9 (by simp; omega) (fun j hj => (hown.lt j hj).1)
        have L9 : Hid ((rs ++ [(kk, Value.slice sl3 q cap3, zs)]).length ≤ k + 1) := by show _ ≤ _; simp; have := HP.out; omega
        clear own9 grow9 hg9 hlt9 hown d0 d1 df
        go_wp2
        go_roundw
        case rel => exact ⟨k + 1, rs ++ [(kk, .slice sl3 q cap3, zs)], by go_num, by omega, L9.out, R9, B9⟩
        case measure => simp [intOf]; omega
    · have hk' : ¬ (k : Int) < 4 := by omega
      have F : Hid (rs.length ≤ 4) := by show _ ≤ _; omega
      go_wp2
      go_ret
      exact ⟨rs, _, rfl, F.out, H1.out, H2.out⟩
end Go.Proofs.YtnkdkbchendpmaaDoor
