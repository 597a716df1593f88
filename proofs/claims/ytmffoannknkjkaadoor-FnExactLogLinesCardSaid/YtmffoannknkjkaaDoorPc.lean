/-
  LINES OF A LOG, AS THE MODEL TELLS THEM.
-/
import Derived.Test.YtmffoannknkjkaaDoorPb
namespace Go.Proofs.YtmffoannknkjkaaDoor
open Go.RowKit
set_option linter.unusedVariables false

theorem grown_other {w w1 w2 : World} {x g : Nat} (h : w.grownBy w1 (some x)) (h2 : w1.grownBy w2 (some g)) (hg : g = x ∨ w.heap.size ≤ g) : w.grownBy w2 (some x) :=
  ⟨h2.os.trans h.os, h2.tape.trans h.tape, h2.output.trans h.output, Nat.le_trans h.size h2.size, fun k hk hx => (h2.block k (Nat.lt_of_lt_of_le hk h.size) (fun e => by
    cases e
    rcases hg with rfl | hg
    · exact hx rfl
    · omega)).trans (h.block k hk hx)⟩
theorem grown_row {w w1 w2 : World} {x : Nat} {row : Option Nat} (h : w.grownBy w1 (some x)) (h2 : w1.grownBy w2 row) (hr : ∀ g, row = some g → g = x ∨ w.heap.size ≤ g) : w.grownBy w2 (some x) := by
  cases row with
  | none => exact ⟨h2.os.trans h.os, h2.tape.trans h.tape, h2.output.trans h.output, Nat.le_trans h.size h2.size, fun k hk hx => (h2.block k (Nat.lt_of_lt_of_le hk h.size) (fun e => by cases e)).trans (h.block k hk hx)⟩
  | some g => exact grown_other h h2 (hr g rfl)
theorem own_slice {w : World} {B : Nat} {e : TypeId} {m : Nat} {v : Value} {n : Nat} {xs : List Value} (h : w.ownsRow B e m v n xs) : ∃ sl cap, v = .slice sl n cap := by
  rcases h.2 with ⟨rfl, h0⟩ | ⟨g, cap, cur, rfl, _⟩
  · exact ⟨none, 0, by rw [h0]⟩
  · exact ⟨_, cap, rfl⟩
theorem bz_step (zs : List Int) (j : Nat) (hj : j < zs.length) (h0 : 0 ≤ zs.getD j 0) (h1 : zs.getD j 0 ≤ 255) : Lib.byteCells (bz (zs.take (j + 1))) = Lib.byteCells (bz (zs.take j)) ++ [.int .u8 (zs.getD j 0)] := by
  have e3 : zs.take (j + 1) = zs.take j ++ [zs.getD j 0] := by rw [List.take_succ_eq_append_getElem hj]; simp [hj]
  rw [e3]
  simp only [bz, Lib.byteCells, List.map_append, List.map_cons, List.map_nil]
  rw [byte_back h0 h1]
theorem grown_self (w : World) (row : Option Nat) : w.grownBy w row := grown_below row (Below.refl _ _)
theorem RecsIn.keptX {B x : Nat} {w w' : World} {v : Value} {rs : List (Int × Value × List Int)} (h : RecsIn B w v rs) (hg : w.grownBy w' (some x)) (hx : x < B) : RecsIn B w' v rs :=
  ⟨h.row.kept hg (.inr fun e => by have := (h.row.lt x e).1; omega), fun r hr => ⟨(h.each r hr).1.kept hg (.inr fun e => by have := ((h.each r hr).1.lt x e).1; omega), (h.each r hr).2⟩⟩
theorem below_of_grown {B x : Nat} {w0 w w' : World} (h : Below B w0 w) (hg : w.grownBy w' (some x)) (hB : B ≤ w.heap.size) (hx : B ≤ x) : Below B w0 w' := h.grown hg hB (fun k hk => by cases hk; exact hx)

set_option maxRecDepth 100000 in
set_option maxHeartbeats 2000000 in
theorem sll_any (s : ByteArray) (sl : Option Addr) (cap : Nat) (ss : List ByteArray) (w : World) (hz : Strs w sl ss) :
    Calls Tryd.prog 6 #[DV s sl ss.length cap] w fun e w' => LLPost s ss w e w' := by
  obtain ⟨i9, hi9, hd0, hd1, hd2⟩ := info_parts info9'
  obtain ⟨i5, hi5, he0, he1, he2⟩ := info_parts info5'
  have T : Hid (∀ w1, Below w.heap.size w w1 → Calls Tryd.prog 19 #[DV s sl ss.length cap] w1 fun e w' => e = .returned (.string (dT s ss)) ∧ Below w1.heap.size w1 w') := fun w1 hb => sdt_any s sl cap ss w1 (hz.below hb)
  have RC : Hid (∀ w1, Calls Tryd.prog 18 #[.string (dT s ss)] w1 fun e w' => ∃ rs v u c, e = .returned (.agg #[v, .int .i64 u, .int .i64 c]) ∧ bare rs = lor s ss ∧ rs.length ≤ 20000 ∧ RecsIn w1.heap.size w' v rs ∧ Below w1.heap.size w1 w') := fun w1 => by
    refine (mrs_any (dT s ss) w1).mono ?_
    rintro e w' ⟨rs, v, u, c, hr, rfl, hI, b⟩
    refine ⟨rs, v, u, c, rfl, lor_is hr, ?_, hI, b⟩
    have h1 := hr.len
    have h2 := dT_le s ss
    rw [bare_len] at h1
    have e : (dT s ss).data.toList.length = (dT s ss).size := by simp
    omega
  have D0 := DAt.new 27 w s (.slice sl ss.length cap)
  have PE : Hid (∀ w' v, Below w.heap.size w w' → OwnS w' w.heap.size v (linesZ (lor s ss)) → LLPost s ss w (.returned v) w') := fun w' v hb ho => ⟨v, rfl, ho, hb⟩
  clear hz
  generalize lor s ss = R at *
  generalize ss.length = n0 at *
  generalize dT s ss = F at *
  have F0 := fld37l
  have D1 := Lib.hid (D0.below (bA0 _ (.cells #[] 9)))
  have hz1 : (w.alloc (.cells #[.string s, .slice sl n0 cap] 27)).heap.size = w.heap.size + 1 := by simp
  have O1 : Hid (OwnS ((w.alloc (.cells #[.string s, .slice sl n0 cap] 27)).alloc (.cells #[] 9)) (w.heap.size + 1) (.slice (some ⟨w.heap.size + 1, 0, none⟩) 0 0) []) := by
    have := World.ownsRow_lit (w.alloc (.cells #[.string s, .slice sl n0 cap] 27)) #[] 0 (base := w.heap.size + 1) (e := 9) (size := 1) (by simp) (Nat.zero_le _) rfl
    rw [hz1] at this
    show OwnS _ _ _ _
    simpa [OwnS] using this
  obtain ⟨c0, c1⟩ := D1.out.cells
  go_enter Tryd.func6, Tryd.ntmps6
  go_wp2_with fail
  refine (T.out _ (bA (bA0 _ _) _)).mono ?_
  rintro e w1 ⟨rfl, b1⟩
  have B1 := Lib.hid (bT (bA (bA0 _ _) _) b1)
  have O2 := Lib.hid (O1.out.below b1)
  have hs1 : w.heap.size + 1 < w1.heap.size := by have := b1.size; simp at this; omega
  clear b1 O1 D1 D0 c0 c1
  go_wp2_with fail
  refine (RC.out _).mono ?_
  rintro e w2 ⟨rs, v, u, c, rfl, eR, hn2, r2, b2⟩
  obtain ⟨sl2, cap2, rfl⟩ := r2.form
  have B2 := Lib.hid (bT B1.out b2)
  have R2 := Lib.hid r2
  have ER := Lib.hid eR
  have O3 := Lib.hid (O2.out.below b2)
  clear eR r2 b2 B1 T RC O2
  generalize hN : rs.length = n at *
  have HN := Lib.hid hN
  clear hN
  go_wp2_with fail
  go_loopw [3, 5] (fun v i wr => ∃ k : Nat, i = .int .i64 k ∧ k ≤ n ∧ Hid (w2.grownBy wr (some (w.heap.size + 1))) ∧ Hid (OwnS wr (w.heap.size + 1) v (linesZ (R.take k))) ∧ Hid (∀ j, v.ownBlock = some j → j = w.heap.size + 1 ∨ w2.heap.size ≤ j)) (fun _ i _ => n - (intOf i).toNat)
  case atStart =>
    refine ⟨0, rfl, Nat.zero_le _, grown_self _ _, ?_, fun j hj => .inl (by cases hj; rfl)⟩
    show OwnS _ _ _ _
    rw [linesZ_nil]; exact O3.out
  case round =>
    obtain ⟨k, rfl, hk, H1, H2, H3⟩ := hrel
    obtain ⟨slv, capv, rfl, -⟩ := H2.out.strs
    have hk0 : (0 : Int) ≤ (k : Int) := by omega
    have hR9 : R.length = n := by rw [← ER.out, bare_len, HN.out]
    have HL := Lib.hid (linesZ_len (R.take k))
    have hB2 := B2.out.size
    have BW : Hid (Below w.heap.size w wr) := below_of_grown B2.out H1.out hB2 (by omega)
    by_cases h1 : k < n
    · have h1' : (k : Int) < (n : Int) := by omega
      generalize hm : (linesZ (R.take k)).length = m at *
      have HM := Lib.hid hm
      clear hm
      by_cases h4 : m < 400
      · have h4' : (m : Int) < 400 := by omega
        obtain ⟨g, cap', kd, sl3, cap3, zs, ev, hg, hb3, c0, c1, hI, hR⟩ := (R2.out.keptX H1.out hs1).at k (by rw [HN.out]; exact h1)
        rw [HN.out] at ev
        simp only [Value.slice.injEq, true_and] at ev
        obtain ⟨rfl, rfl⟩ := ev
        rw [ER.out] at hb3
        have HB3 := Lib.hid hb3
        have hz6 : zs.length ≤ 60 := by
          have := hR; simp only [recR, Bool.and_eq_true, decide_eq_true_eq] at this; omega
        have LA : Hid (Calls Tryd.prog 20 #[.slice sl3 zs.length cap3, .int .i64 0, .int .i64 255] wr fun e w' => e = .returned (.bool (zs.all isB)) ∧ w' = wr) := lB_any sl3 cap3 zs wr (by unfold maxLen; omega) hI
        have HI := Lib.hid hI
        clear hb3 hR hI
        cases hl : lineR kd zs
        · have E := Lib.hid (linesZ_no R k kd zs HB3.out hl)
          by_cases hkd : kd = 1
          · subst hkd
            have hall : zs.all isB = false := by rw [← lineR_one]; exact hl
            rw [hall] at LA
            clear hall hl
            generalize zs.length = q at *
            go_wp2_with fail
            refine LA.out.mono ?_
            rintro e w5 ⟨rfl, rfl⟩
            go_wp2
            go_roundw
            case rel => exact ⟨k + 1, by go_num, by omega, H1.out, by rw [E.out]; exact H2.out, H3.out⟩
            case measure => simp [intOf]; omega
          · have hkd' : (kd != 1) = true := by simp [hkd]
            clear LA hl
            generalize zs.length = q at *
            go_wp2
            go_roundw
            case rel => exact ⟨k + 1, by go_num, by omega, H1.out, by rw [E.out]; exact H2.out, H3.out⟩
            case measure => simp [intOf]; omega
        · have E := Lib.hid (linesZ_yes R k kd zs HB3.out hl (by rw [HM.out]; exact h4))
          obtain rfl : kd = 1 := by simp only [lineR, Bool.and_eq_true, decide_eq_true_eq] at hl; exact hl.1
          have hall : zs.all isB = true := by rw [← lineR_one]; exact hl
          have HA : Hid (∀ j, j < zs.length → 0 ≤ zs.getD j 0 ∧ zs.getD j 0 ≤ 255) := fun j hj => by
            have := List.all_eq_true.1 hall zs[j] (List.getElem_mem hj)
            simpa [isB, hj] using this
          rw [hall] at LA
          clear hall hl
          generalize hq : zs.length = q at *
          have HQ := Lib.hid hq
          clear hq
          go_wp2_with fail
          refine LA.out.mono ?_
          rintro e w5 ⟨rfl, rfl⟩
          have hwr := H1.out.size
          have A0 : Hid ((w5.alloc (.cells #[] 5)).ownsRow w5.heap.size 5 1 (.slice (some ⟨w5.heap.size, 0, none⟩) 0 0) 0 (Lib.byteCells (bz (zs.take 0)))) := by
            have := World.ownsRow_lit w5 #[] 0 (base := w5.heap.size) (e := 5) (size := 1) (Nat.le_refl _) (Nat.zero_le _) rfl
            show World.ownsRow _ _ _ _ _ _ _
            simpa [Lib.byteCells, bz] using this
          have hcz : Hid (∀ w', Below w5.heap.size w5 w' → w'.cell? ⟨g, 0 + k * 2, none⟩ = some (.int .i64 1) ∧ w'.cell? ⟨g, k * 2 + 1, none⟩ = some (.slice sl3 q cap3)) := fun w' hb => ⟨by rw [hb.cell hg, Nat.zero_add]; exact c0, by rw [hb.cell hg]; exact c1⟩
          clear LA
          go_wp2_with fail
          go_loopw [6, 7] (fun v i wr => ∃ j : Nat, i = .int .i64 j ∧ j ≤ q ∧ Hid (Below w5.heap.size w5 wr) ∧ Hid (wr.ownsRow w5.heap.size 5 1 v j (Lib.byteCells (bz (zs.take j))))) (fun _ i _ => q - (intOf i).toNat)
          case atStart => exact ⟨0, rfl, Nat.zero_le _, bA0 _ _, A0.out⟩
          case round =>
            obtain ⟨j, rfl, hj, J1, J2⟩ := hrel
            have hj0 : (0 : Int) ≤ (j : Int) := by omega
            obtain ⟨d0, d1⟩ := hcz.out _ J1.out
            obtain ⟨sl6, cap6, rfl⟩ := own_slice J2.out
            by_cases h2 : j < q
            · have h2' : (j : Int) < (q : Int) := by omega
              obtain ⟨a0, a1⟩ := HA.out j h2
              rcases HI.out.below J1.out with rfl | ⟨c3, o3, rfl, hA⟩
              · exfalso; have := HQ.out; simp at this; omega
              have hc : wr.cell? ⟨c3, o3 + j, none⟩ = some (.int .i64 (zs.getD j 0)) := hA.2 j (by rw [HQ.out]; exact h2)
              have hu : IntKind.u8.wrap (zs.getD j 0) = zs.getD j 0 := by rw [IntKind.wrap_u8]; omega
              have EB := Lib.hid (bz_step zs j (by rw [HQ.out]; exact h2) a0 a1)
              clear hA
              generalize zs.getD j 0 = z at *
              go_wp2_with (first | (at_builtin; refine wpList_append_lies _ rfl (.tmp 50) (.tmp 60) 44 rfl w5.heap.size 5 i5 (.int .u8 0) 1 1 Tryd.underlying44 hi5 he0 he1 he2 rfl (by decide) _ _ _ rfl (own_below J2.out (bA0 _ _)) ⟨wr.heap.size, 0, none⟩ 1 1 [.int .u8 z] rfl rfl (cell_one_new _ _ _) (by intro u hu; simp at hu; rcases hu with rfl; rfl) (by decide) (by unfold maxLen; omega) (by omega) (by have := J1.out.size; simp; omega) (wr.heap.size + 1) (by simp) ?_))
              intro g9 cap9 w9 own9 grow9 hg9 hlt9
              have B9 : Hid (Below w5.heap.size w5 w9) := (J1.out.trans ((bA0 wr (.cells #[.int .u8 z] 5)).mono J1.out.size)).grown grow9 (by have := J1.out.size; simp; omega) (fun j hj => (J2.out.lt j hj).1)
              have O9 : Hid (w9.ownsRow w5.heap.size 5 1 (.slice (some ⟨g9, 0, none⟩) (j + 1) cap9) (j + 1) (Lib.byteCells (bz (zs.take (j + 1))))) := by
                show World.ownsRow _ _ _ _ _ _ _
                rw [EB.out]; exact own9
              clear own9 grow9 hg9 hlt9
              go_wp2
              go_roundw
              case rel => exact ⟨j + 1, by go_num, by omega, B9.out, O9.out⟩
              case measure => simp [intOf]; omega
            · have h2' : ¬ (j : Int) < (q : Int) := by omega
              have hjq : zs.take j = zs := List.take_of_length_le (by rw [HQ.out]; omega)
              have J3 : Hid (wr.ownsRow w5.heap.size 5 1 (.slice sl6 j cap6) (bz zs).length (Lib.byteCells (bz zs))) := by
                have := J2.out
                rw [hjq] at this
                show World.ownsRow _ _ _ _ _ _ _
                have e : (bz zs).length = j := by rw [bz_len, HQ.out]; omega
                rw [e]; exact this
              have hcv : Sem.run Tryd.prog (convert 44 9 (.slice sl6 j cap6)) wr = .ok (.string (bytesZ zs)) wr := own_text J3.out
              have hown : Hid (wr.ownsRow (w.heap.size + 1) 9 1 (.slice slv m capv) m ((linesZ (R.take k)).map Value.string)) := by
                have := H2.out.below J1.out
                unfold OwnS at this
                rwa [HM.out] at this
              have hs6 : w5.heap.size ≤ wr.heap.size := J1.out.size
              have H9 := Lib.hid (grown_trans H1.out (grown_below (some (w.heap.size + 1)) J1.out))
              clear hjq J2 J3 A0
              generalize bytesZ zs = X at *
              go_wp2_with (first | (at_builtin; refine wpList_append_lies _ rfl (.tmp 62) (.tmp 65) 22 rfl (w.heap.size + 1) 9 i9 (.string ⟨#[]⟩) 1 16 Tryd.underlying22 hi9 hd0 hd1 hd2 rfl (by decide) _ _ _ rfl (own_below hown.out (bA0 _ _)) ⟨wr.heap.size, 0, none⟩ 1 1 [.string X] rfl rfl (cell_one_new _ _ _) (by intro u hu; simp at hu; rcases hu with rfl; rfl) (by decide) (by unfold maxLen; omega) (by omega) (by simp; omega) (wr.heap.size + 1) (by simp) ?_))
              intro g9 cap9 w9 own9 grow9 hg9 hlt9
              have O9 := Lib.hid (OwnS.app own9 HM.out)
              have G9 : Hid (w2.grownBy w9 (some (w.heap.size + 1))) := grown_row (grown_trans H9.out (grown_below (some (w.heap.size + 1)) (bA0 wr (.cells #[.string X] 9)))) grow9 H3.out
              have F9 : Hid (∀ j, Value.ownBlock (.slice (some ⟨g9, 0, none⟩) (m + 1) cap9) = some j → j = w.heap.size + 1 ∨ w2.heap.size ≤ j) := fun j hj => by
                obtain rfl : g9 = j := by cases hj; rfl
                rcases hg9 with h | h
                · exact H3.out _ h
                · right; omega
              clear own9 grow9 hg9 hlt9
              go_wp2
              go_roundw
              case rel => exact ⟨k + 1, by go_num, by omega, G9.out, by rw [E.out]; exact O9.out, F9.out⟩
              case measure => simp [intOf]; omega
      · have h4' : ¬ (m : Int) < 400 := by omega
        have E : Hid (linesZ R = linesZ (R.take k)) := linesZ_full R k (by rw [HM.out]; omega)
        go_wp2
        go_ret
        exact PE.out _ _ BW.out (by rw [E.out]; exact OwnS.mono H2.out (by omega))
    · have h1' : ¬ (k : Int) < (n : Int) := by omega
      have E : Hid (linesZ (R.take k) = linesZ R) := by show _ = _; rw [List.take_of_length_le (by omega)]
      generalize (linesZ (R.take k)).length = m at *
      go_wp2
      go_ret
      exact PE.out _ _ BW.out (by rw [← E.out]; exact OwnS.mono H2.out (by omega))

end Go.Proofs.YtmffoannknkjkaaDoor
