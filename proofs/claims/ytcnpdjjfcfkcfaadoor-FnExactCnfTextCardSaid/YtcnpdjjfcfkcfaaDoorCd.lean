/-
  CLAUSES AS TEXT, AS THE MODEL TELLS THEM: spec.CnfText.
-/
import Derived.Test.YtcnpdjjfcfkcfaaDoorCb
import Derived.Test.YtcnpdjjfcfkcfaaDoorCc
import Derived.Test.YtcnpdjjfcfkcfaaDoorQf
import Derived.Lib.AppendZeros
namespace Go.Proofs.YtcnpdjjfcfkcfaaDoor
open Go.RowKit
set_option linter.unusedVariables false

theorem bytes_heap (w : World) (s : ByteArray) : (Lib.bytesWorld w 5 s).heap[w.heap.size]? = some (.cells (Lib.bytesCells w 5 s) 5 ((Lib.bytesCells w 5 s).size, (Lib.bytesCells w 5 s).size + 1)) := by
  have h0 : (w.drew.alloc (.cells (Lib.bytesCells w 5 s) 5)).heap[w.heap.size]? = some (.cells (Lib.bytesCells w 5 s) 5) := heap_alloc_new w.drew _
  unfold Lib.bytesWorld World.freeze
  rw [if_neg (by decide)]
  show (Array.modify _ _ _)[w.heap.size]? = _
  rw [Array.getElem?_modify, if_pos rfl, h0]
  simp
theorem bytes_below (w : World) (s : ByteArray) : Below w.heap.size w (Lib.bytesWorld w 5 s) := by
  unfold Lib.bytesWorld World.freeze
  rw [if_neg (by decide)]
  refine ⟨rfl, rfl, rfl, ?_, fun k hk => ?_⟩
  · show _ ≤ (Array.modify _ _ _).size
    rw [Array.size_modify]
    simp
  · show (Array.modify _ _ _)[k]? = _
    rw [Array.getElem?_modify, if_neg (by show ¬ w.heap.size = k; omega)]
    exact Below.heap_alloc _ _ _ hk
theorem bytes_own (w : World) (l : List UInt8) (hl : l.length ≤ 1000000) : OwB (Lib.bytesWorld w 5 ⟨l.toArray⟩) w.heap.size (.slice (some ⟨w.heap.size, 0, none⟩) l.length (grownCap w (⟨l.toArray⟩ : ByteArray).size 0 5)) l := by
  have hs : (⟨l.toArray⟩ : ByteArray).size = l.length := by simp [ByteArray.size]
  have hge := grownCap_ge w (⟨l.toArray⟩ : ByteArray).size 0 5
  have hcm := grownCap_le_maxLen w (⟨l.toArray⟩ : ByteArray).size 0 5 (by rw [hs]; unfold maxLen; omega)
  have hsz : (Lib.bytesCells w 5 ⟨l.toArray⟩).size = grownCap w (⟨l.toArray⟩ : ByteArray).size 0 5 := by
    unfold Lib.bytesCells
    simp
    rw [hs] at hge ⊢
    omega
  refine ⟨w.heap.size, _, _, _, rfl, Nat.le_refl _, bytes_heap w _, fun i hi => by rw [hsz]; simp; omega, by rw [hs] at hge ⊢; exact hge, hcm, hsz, ?_⟩
  unfold Lib.bytesCells Lib.byteCells
  simp
theorem OwB.mono {w : World} {B B' : Nat} {v : Value} {l : List UInt8} (h : OwB w B v l) (hb : B' ≤ B) : OwB w B' v l := by
  obtain ⟨g, cap, cur, fz, e, h1, r⟩ := h
  exact ⟨g, cap, cur, fz, e, Nat.le_trans hb h1, r⟩
theorem OwB.v {w : World} {B : Nat} {v : Value} {l : List UInt8} (h : OwB w B v l) : ∃ g cap, v = .slice (some ⟨g, 0, none⟩) l.length cap := by
  obtain ⟨g, cap, cur, fz, e, _⟩ := h
  exact ⟨g, cap, e⟩
theorem head_eq (vars : Int) (n : Nat) : [112, 32, 99, 110, 102, 32] ++ Lib.itoa vars ++ [32] ++ Lib.itoa (n : Int) ++ [10] = headB vars n := by
  simp [headB, wordB, numB]
set_option maxRecDepth 100000 in
set_option maxHeartbeats 4000000 in
/-- spec.CnfText. -/
theorem sct_any (vars : Int) (sl : Option Addr) (cap : Nat) (cs : List LCl) (w : World) (hn : cs.length ≤ maxLen) (hs : totC cs ≤ 1048576) (hwf : WfC cs) (hw : WfL (bareC cs)) (hz : Cls w sl cs) :
    Calls Tryd.prog 28 #[CV vars sl cs.length cap] w fun e w' => e = .returned (.string ⟨(cnfT vars (bareC cs)).toArray⟩) ∧ Below w.heap.size w w' := by
  have B0 := Lib.hid (bA0 w (.cells #[.int .i64 vars, .slice sl cs.length cap] 27))
  have CA := Lib.hid (CnfAt.new w vars sl cs.length cap)
  have E1 := Lib.hid (scr_any vars sl cap cs (w.alloc (.cells #[.int .i64 vars, .slice sl cs.length cap] 27)) hn hs hwf (hz.below (bA0 _ _)))
  by_cases hr : CnfR vars (bareC cs)
  · rw [B_yes hr] at E1
    have hln : (bareC cs).length = cs.length := by simp [bareC]
    have LT : Hid (cnfT vars (bareC cs) = if (headB vars cs.length ++ allB (bareC cs)).length ≤ 20000 then headB vars cs.length ++ allB (bareC cs) else []) := by
      have := cnfT_yes hr
      rw [hln] at this
      exact this
    have hv := hr.1
    have h4 : cs.length ≤ 4000 := by have := hr.2.1; omega
    have hd1 := itoa_mid vars ⟨by omega, by omega⟩
    have hd2 := itoa_mid (cs.length : Int) ⟨by omega, by omega⟩
    have hdl := headB_le vars cs.length hv h4
    have E77 := Lib.hid (fun W => dec_any vars ⟨by omega, by omega⟩ W)
    have E78 := Lib.hid (fun W => dec_any (cs.length : Int) ⟨by omega, by omega⟩ W)
    have HE := Lib.hid (head_eq vars cs.length)
    have HR := Lib.hid hz.rowC
    have HN := Lib.hid hln
    have HC := Lib.hid (cnfR_lines hr hw).2
    have hcv := fun W s => Lib.run_convert_string_bytes (P := Tryd.prog) W 9 22 5 s Tryd.underlying9 Tryd.underlying22 Tryd.underlying5
    clear hz hw hwf hr hln hv hs
    generalize headB vars cs.length = hd at *
    generalize Lib.itoa vars = d1 at *
    generalize Lib.itoa (cs.length : Int) = d2 at *
    generalize cnfT vars (bareC cs) = t at *
    generalize bareC cs = css at *
    generalize cs.length = n at *
    clear cs
    go_enter Tryd.func28, Tryd.ntmps28
    go_wp2_with fail
    generalize w.alloc (.cells #[.int .i64 vars, .slice sl n cap] 27) = w0 at *
    refine E1.out.mono ?_
    rintro e w1 ⟨rfl, b1⟩
    have D1 := Lib.hid (bT B0.out b1)
    have C1 := Lib.hid (CA.out.below b1)
    have KB : Hid (∀ W, Below w1.heap.size w1 W → w.heap.size < W.heap.size ∧ W.cell? ⟨w.heap.size, 0, none⟩ = some (.int .i64 vars) ∧ W.cell? ⟨w.heap.size, 1, none⟩ = some (.slice sl n cap)) := fun W hW => by
      obtain ⟨k0, k1⟩ := (C1.out.below hW).cells
      exact ⟨(C1.out.below hW).lt, k0, k1⟩
    have s1 : ¬ 9223372036854775807 < 6 + d1.length := by omega
    have s2 : ¬ 9223372036854775807 < 6 + d1.length + 1 := by omega
    have s3 : ¬ 9223372036854775807 < 6 + d1.length + 1 + d2.length := by omega
    have s4 : ¬ 9223372036854775807 < 6 + d1.length + 1 + d2.length + 1 := by omega
    clear b1 E1 CA B0
    go_wp2_with fail
    refine wp_region_held_drew (S := fun W => w.heap.size < W.heap.size ∧ W.cell? ⟨w.heap.size, 0, none⟩ = some (.int .i64 vars) ∧ W.cell? ⟨w.heap.size, 1, none⟩ = some (.slice sl n cap)) (by kernel_rfl) ?_ (fun hHeld => ?_)
    · exact KB.out _ (Below.refl _ _).drew
    refine wpAnyH_take (i := 0) (oi := _) (v := ?_) rfl (by kernel_rfl) (by kernel_rfl) (by kernel_rfl) (fun _ _ _ h => h) (Or.inl ⟨by rfl, ?_⟩) (by assumption) ?_
    rotate_left
    · first | (intro w hSw; (try dsimp only at hSw); go_simp; done) | (intro w hSw; (try dsimp only at hSw); go_simp; with_reducible rfl)
    try simp only [Act.put, List.setIfInBounds_toArray, List.set_cons_zero, List.set_cons_succ, List.getElem_toArray, List.getElem_cons_zero]
    refine wpAnyH_take (i := 1) (oi := _) (v := ?_) rfl (by kernel_rfl) (by kernel_rfl) (by kernel_rfl) (fun _ _ _ h => h) (Or.inl ⟨by rfl, ?_⟩) (by assumption) ?_
    rotate_left
    · first | (intro w hSw; (try dsimp only at hSw); go_simp; done) | (intro w hSw; (try dsimp only at hSw); go_simp; with_reducible rfl)
    try simp only [Act.put, List.setIfInBounds_toArray, List.set_cons_zero, List.set_cons_succ, List.getElem_toArray, List.getElem_cons_succ, List.getElem_cons_zero]
    refine wpAnyH_take (i := 5) (oi := _) (v := ?_) rfl (by kernel_rfl) (by kernel_rfl) (by kernel_rfl) (fun _ _ _ h => h) (Or.inl ⟨by rfl, ?_⟩) (by assumption) ?_
    rotate_left
    · first | (intro w hSw; (try dsimp only at hSw); go_simp; done) | (intro w hSw; (try dsimp only at hSw); go_simp; with_reducible rfl)
    try simp only [Act.put, List.setIfInBounds_toArray, List.set_cons_zero, List.set_cons_succ, List.getElem_toArray, List.getElem_cons_succ, List.getElem_cons_zero]
    refine wpAnyH_take (i := 6) (oi := _) (v := ?_) rfl (by kernel_rfl) (by kernel_rfl) (by kernel_rfl) (fun _ _ _ h => h) (Or.inl ⟨by rfl, ?_⟩) (by assumption) ?_
    rotate_left
    · first | (intro w hSw; (try dsimp only at hSw); go_simp; done) | (intro w hSw; (try dsimp only at hSw); go_simp; with_reducible rfl)
    try simp only [Act.put, List.setIfInBounds_toArray, List.set_cons_zero, List.set_cons_succ, List.getElem_toArray, List.getElem_cons_succ, List.getElem_cons_zero]
    refine wpAnyH_take (i := 7) (oi := _) (v := ?_) rfl (by kernel_rfl) (by kernel_rfl) (by kernel_rfl) (fun _ _ _ h => h) (Or.inl ⟨by rfl, ?_⟩) (by assumption) ?_
    rotate_left
    · first | (intro w hSw; (try dsimp only at hSw); go_simp; done) | (intro w hSw; (try dsimp only at hSw); go_simp; with_reducible rfl)
    try simp only [Act.put, List.setIfInBounds_toArray, List.set_cons_zero, List.set_cons_succ, List.getElem_toArray, List.getElem_cons_succ, List.getElem_cons_zero]
    refine wpAnyH_ready (rs := [2]) (by kernel_rfl) (by simp) ?_
    refine AllReadyH.cons rfl (fun K hK => ?_) AllReadyH.nil
    go_simp
    go_wp2_with (go_at_call 77; refine (E77.out _).mono ?_; rintro e w2 ⟨rfl, b2⟩)
    have F2 : Hid (Below w1.heap.size w1 w2) := bT (Below.refl w1.heap.size w1).drew b2
    clear b2
    refine hK.out _ _ ?_ (fun hHeld => ?_)
    · exact KB.out _ F2.out
    clear hK K
    refine wpAnyH_take (i := 3) (oi := _) (v := ?_) rfl (by kernel_rfl) (by kernel_rfl) (by kernel_rfl) (fun _ _ _ h => h) (Or.inl ⟨by rfl, ?_⟩) (by assumption) ?_
    rotate_left
    · first | (intro w hSw; (try dsimp only at hSw); go_simp; done) | (intro w hSw; (try dsimp only at hSw); go_simp; with_reducible rfl)
    try simp only [Act.put, List.setIfInBounds_toArray, List.set_cons_zero, List.set_cons_succ, List.getElem_toArray, List.getElem_cons_succ, List.getElem_cons_zero]
    refine wpAnyH_take (i := 4) (oi := _) (v := ?_) rfl (by kernel_rfl) (by kernel_rfl) (by kernel_rfl) (fun _ _ _ h => h) (Or.inl ⟨by rfl, ?_⟩) (by assumption) ?_
    rotate_left
    · first | (intro w hSw; (try dsimp only at hSw); go_simp; done) | (intro w hSw; (try dsimp only at hSw); go_simp; with_reducible rfl)
    try simp only [Act.put, List.setIfInBounds_toArray, List.set_cons_zero, List.set_cons_succ, List.getElem_toArray, List.getElem_cons_succ, List.getElem_cons_zero]
    refine wpAnyH_ready (rs := [8]) (by kernel_rfl) (by simp) ?_
    refine AllReadyH.cons rfl (fun K hK => ?_) AllReadyH.nil
    go_simp
    go_wp2_with (go_at_call 77; refine (E78.out _).mono ?_; rintro e w3 ⟨rfl, b3⟩)
    have F3 : Hid (Below w1.heap.size w1 w3) := bT F2.out b3
    clear b3
    refine hK.out _ _ ?_ (fun hHeld => ?_)
    · exact KB.out _ F3.out
    clear hK K
    refine wpAnyH_take (i := 9) (oi := _) (v := ?_) rfl (by kernel_rfl) (by kernel_rfl) (by kernel_rfl) (fun _ _ _ h => h) (Or.inl ⟨by rfl, ?_⟩) (by assumption) ?_
    rotate_left
    · first | (intro w hSw; (try dsimp only at hSw); go_simp; done) | (intro w hSw; (try dsimp only at hSw); go_simp; with_reducible rfl)
    try simp only [Act.put, List.setIfInBounds_toArray, List.set_cons_zero, List.set_cons_succ, List.getElem_toArray, List.getElem_cons_succ, List.getElem_cons_zero]
    refine wpAnyH_take (i := 10) (oi := _) (v := ?_) rfl (by kernel_rfl) (by kernel_rfl) (by kernel_rfl) (fun _ _ _ h => h) (Or.inl ⟨by rfl, ?_⟩) (by assumption) ?_
    rotate_left
    · first | (intro w hSw; (try dsimp only at hSw); go_simp; done) | (intro w hSw; (try dsimp only at hSw); go_simp; with_reducible rfl)
    try simp only [Act.put, List.setIfInBounds_toArray, List.set_cons_zero, List.set_cons_succ, List.getElem_toArray, List.getElem_cons_succ, List.getElem_cons_zero]
    refine wpAnyH_ready (rs := [11]) (by kernel_rfl) (by simp) ?_
    refine AllReadyH.cons rfl (fun K hK => ?_) AllReadyH.nil
    go_simp
    refine hK.out _ _ ?_ (fun hHeld => ?_)
    · exact KB.out _ (bT F3.out (bytes_below _ _))
    clear hK K
    refine wpAnyH_take (i := 12) (oi := _) (v := ?_) rfl (by kernel_rfl) (by kernel_rfl) (by kernel_rfl) (fun _ _ _ h => h) (Or.inl ⟨by rfl, ?_⟩) (by assumption) ?_
    rotate_left
    · first | (intro w hSw; (try dsimp only at hSw); go_simp; done) | (intro w hSw; (try dsimp only at hSw); go_simp; with_reducible rfl)
    try simp only [Act.put, List.setIfInBounds_toArray, List.set_cons_zero, List.set_cons_succ, List.getElem_toArray, List.getElem_cons_succ, List.getElem_cons_zero]
    refine wpAnyH_done (by kernel_rfl) ?_ _
    have e1 : ((⟨#[112, 32, 99, 110, 102, 32]⟩ : ByteArray) ++ ⟨d1.toArray⟩ ++ ⟨#[32]⟩ ++ ⟨d2.toArray⟩ ++ ⟨#[10]⟩) = ⟨hd.toArray⟩ := by
      have h1 := ba_app [112, 32, 99, 110, 102, 32] d1
      have h2 := ba_app ([112, 32, 99, 110, 102, 32] ++ d1) [32]
      have h3 := ba_app ([112, 32, 99, 110, 102, 32] ++ d1 ++ [32]) d2
      have h5 := ba_app ([112, 32, 99, 110, 102, 32] ++ d1 ++ [32] ++ d2) [10]
      rw [← HE.out, ← h5, ← h3, ← h2, ← h1]
    have e2 : 6 + d1.length + 1 + d2.length + 1 = hd.length := by
      have := congrArg List.length HE.out
      simp at this
      omega
    rw [e1, e2]
    have hsz : (⟨hd.toArray⟩ : ByteArray).size = hd.length := by simp [ByteArray.size]
    have O0 := Lib.hid ((bytes_own w3 hd (by omega)).mono F3.out.size)
    rw [hsz] at O0
    have B4 := Lib.hid (bT F3.out (bytes_below w3 ⟨hd.toArray⟩))
    clear e1 e2 s1 s2 s3 s4 hcv E77 E78 F2 KB
    generalize Lib.bytesWorld w3 5 ⟨hd.toArray⟩ = w4 at *
    generalize grownCap w3 hd.length 0 5 = cap0 at *
    generalize w3.heap.size = g0 at *
    go_wp2_with fail
    go_loopw [3, 4] (fun v i wr => ∃ (k : Nat) (l : List UInt8), i = .int .i64 k ∧ k ≤ n ∧ l.length ≤ 100 + 2200 * k ∧ Hid (l = hd ++ allB (css.take k)) ∧ Hid (OwB wr w1.heap.size v l) ∧ Hid (Below w1.heap.size w1 wr)) (fun _ i _ => n - (intOf i).toNat)
    case atStart => exact ⟨0, hd, rfl, Nat.zero_le _, by omega, (by show hd = hd ++ allB (css.take 0); simp [allB]), O0, B4⟩
    case round =>
      obtain ⟨k, l, rfl, hk, hll, HL, OR, HB⟩ := hrel
      have hk0 : (0 : Int) ≤ (k : Int) := by omega
      obtain ⟨g, vcap, rfl⟩ := OR.out.v
      obtain ⟨k0, k1⟩ := (C1.out.below HB.out).cells
      have kl := (C1.out.below HB.out).lt
      have hwb := HB.out.size
      by_cases g1 : k < n
      · have g1' : (k : Int) < (n : Int) := by omega
        have hlt : k < css.length := by rw [HN.out]; exact g1
        obtain ⟨c, o, s, scap, rfl, hcl, hcc, hii, hmm⟩ := HR.out k hlt
        have DW := Lib.hid (bT D1.out HB.out)
        have hc := (DW.out.cell (p := ⟨c, o + k, none⟩) hcl).trans hcc
        obtain ⟨h96, hsm⟩ := HC.out css[k] (List.getElem_mem hlt)
        have E43 := Lib.hid (line_any s scap css[k] wr h96 hsm (hii.below DW.out))
        have S1 := Lib.hid (allB_step css k hlt)
        have hdd : (lineB css[k]).length ≤ 2200 := by
          have := lits_le css[k] hsm
          unfold lineB
          rw [List.length_append]
          show _ + 2 ≤ 2200
          omega
        clear hcc hii hmm h96 hsm
        generalize css[k] = zs at *
        clear hlt
        generalize zs.length = m at *
        generalize lineB zs = d at *
        go_wp2_with fail
        refine E43.out.mono ?_
        rintro e w5 ⟨rfl, b5⟩
        obtain ⟨v9, w9, hr9, o9, b9⟩ := appB (OR.out.below b5) d (by omega) (by have := b5.size; omega)
        have N9 := Lib.hid o9
        have B9 := Lib.hid ((bT HB.out b5).trans b9)
        have NL : Hid (l ++ d = hd ++ allB (css.take (k + 1))) := by rw [HL.out, S1.out]; exact Lib.hid (by simp)
        have hl9 : (l ++ d).length ≤ 100 + 2200 * (k + 1) := by rw [List.length_append]; omega
        clear b5 b9 o9 E43 HL S1 OR HB DW
        obtain ⟨g9, cap9, e9⟩ := N9.out.v
        subst e9
        have N10 : Hid (OwB w9 w1.heap.size (.slice (some ⟨g9, 0, none⟩) (l.length + d.length) cap9) (l ++ d)) := by
          have := N9.out
          rw [List.length_append] at this
          exact Lib.hid this
        clear N9
        go_wp2_with (at_builtin; refine Lib.wpList_append_run _ rfl _ _ _ _ rfl _ _ rfl rfl _ _ hr9 ?_)
        go_roundw
        case rel => exact ⟨k + 1, l ++ d, by go_num, by omega, hl9, NL, N10, B9⟩
        case measure => simp [intOf]; omega
      · have g1' : ¬ (k : Int) < (n : Int) := by omega
        have NL : Hid (l = hd ++ allB css) := by
          have := HL.out
          rwa [List.take_of_length_le (by rw [HN.out]; omega)] at this
        have hcv := conv_row wr l g vcap OR.out.cells
        have D9 := Lib.hid (bT D1.out HB.out)
        clear HL OR HB
        by_cases g2 : l.length ≤ 20000
        · have g2' : ¬ (20000 : Int) < (l.length : Int) := by omega
          have LT2 := Lib.hid (show t = l by rw [LT.out, ← NL.out, if_pos g2])
          clear NL LT
          go_wp2
          go_ret
          exact ⟨by rw [LT2.out]; rfl, D9.out⟩
        · have g2' : (20000 : Int) < (l.length : Int) := by omega
          have LT2 := Lib.hid (show t = [] by rw [LT.out, ← NL.out, if_neg g2])
          clear NL LT hcv
          go_wp2
          go_ret
          exact ⟨by rw [LT2.out]; rfl, D9.out⟩
  · rw [B_no hr] at E1
    rw [cnfT_no hr]
    clear hz hw hwf hr CA
    generalize cs.length = n at *
    go_enter Tryd.func28, Tryd.ntmps28
    go_wp2_with fail
    generalize w.alloc (.cells #[.int .i64 vars, .slice sl n cap] 27) = w0 at *
    refine E1.out.mono ?_
    rintro e w1 ⟨rfl, b1⟩
    have D1 := Lib.hid (bT B0.out b1)
    clear b1 E1
    go_wp2
    go_ret
    exact ⟨rfl, D1.out⟩
end Go.Proofs.YtcnpdjjfcfkcfaaDoor
