/-
  A LEMMA THAT FOLLOWS: spec.l10Follows, spec.LemmaRight.
-/
import Derived.Test.YtoobcodlgajieaaDoorJc
import Derived.Test.YtoobcodlgajieaaDoorUae
namespace Go.Proofs.YtoobcodlgajieaaDoor
open Go.RowKit
set_option linter.unusedVariables false
set_option linter.unusedSimpArgs false

theorem dueL_ge (tr : List Int) : ∀ (css : List (List Int)) (k : Nat), (dueL tr k css).1 = -1 ∨ 0 ≤ (dueL tr k css).1
  | [], k => .inl rfl
  | l :: r, k => by
    unfold dueL
    cases unitOf tr l with
    | none => exact dueL_ge tr r (k + 1)
    | some z => right; show (0 : Int) ≤ (k : Int); omega
theorem resF_ge (css : List (List Int)) : ∀ (n : Nat) (tr : List Int), (resF css n tr).2 = -1 ∨ 0 ≤ (resF css n tr).2
  | 0, tr => .inl rfl
  | n + 1, tr => by
    unfold resF
    by_cases h : (dueL tr 0 css).2 = 0
    · rw [if_pos h]; exact dueL_ge tr css 0
    · rw [if_neg h]; exact resF_ge css n _
/-- A lemma follows, where all else is right. -/
def FoOk (vars : Int) (css dss : List (List Int)) (zs : List Int) : Prop := SpTo vars zs zs.length ∧ ¬ (uRun css dss (negW zs)).2 = -1

set_option maxRecDepth 100000 in
set_option maxHeartbeats 4000000 in
/-- spec.l10Follows. -/
theorem sfo_any (V : Nat) (sl : Option Addr) (cap : Nat) (cs : List LCl) (sl2 : Option Addr) (cap2 : Nat) (ds : List LCl) (sl3 : Option Addr) (cap3 : Nat) (zs : List Int) (w : World) (hV : V ≤ 96) (hn : cs.length ≤ 100000) (hnd : ds.length ≤ 100000) (hm : zs.length ≤ 1048576) (hw : ∀ r ∈ cs ++ ds, ∀ z ∈ r.2, OkZ (V : Int) z) (hz : Cls w sl cs) (hd : Cls w sl2 ds) (ht : Ints w sl3 zs) (hb : ∀ z ∈ zs, -9223372036854775808 ≤ z ∧ z ≤ 9223372036854775807) :
    Calls Tryd.prog 69 #[CV (V : Int) sl cs.length cap, .slice sl2 ds.length cap2, .slice sl3 zs.length cap3] w fun e w' => e = .returned (.bool (B (FoOk (V : Int) (bareC cs) (bareC ds) zs))) ∧ Below w.heap.size w w' := by
  have CA := Lib.hid (CnfAt.new w (V : Int) sl cs.length cap)
  have B1 := Lib.hid (bA0 w (.cells #[.int .i64 (V : Int), .slice sl cs.length cap] 25))
  obtain ⟨q0, q1⟩ := CA.out.cells
  have ql := CA.out.lt
  have E1 := Lib.hid (l06_wide (V : Int) sl3 cap3 zs _ (by omega) (by omega) hm (ht.below B1.out))
  by_cases c4 : SpTo (V : Int) zs zs.length
  case neg =>
    rw [B_no (fun h : FoOk (V : Int) (bareC cs) (bareC ds) zs => c4 h.1)]
    rw [B_no c4] at E1
    clear hz hd ht hb hw c4
    generalize cs.length = n at *
    generalize ds.length = m at *
    generalize zs.length = q at *
    go_enter Tryd.func69, Tryd.ntmps69
    go_wp2_with fail
    refine E1.out.mono ?_
    rintro e w1 ⟨rfl, b1⟩
    have D1 := Lib.hid (bT B1.out b1)
    clear b1
    go_wp2
    go_ret
    exact ⟨rfl, D1.out⟩
  rw [B_yes c4] at E1
  have hl96 := c4.short (by omega : (V : Int) ≤ 96)
  have hneg : SpTo (V : Int) (negW zs) (negW zs).length := by rw [negW_len]; exact (negW_sp (by omega) hb).2 c4
  have RU : Hid (∀ W v k, Below w.heap.size w W → W.ownsRow k 2 1 v (negW zs).length (valsZ (negW zs)) → ∃ s kk, v = .slice s (negW zs).length kk ∧ Calls Tryd.prog 50 #[CV (V : Int) sl cs.length cap, .slice sl2 ds.length cap2, .slice s (negW zs).length kk] W (UPost W ((uRun (bareC cs) (bareC ds) (negW zs)).1, (uRun (bareC cs) (bareC ds) (negW zs)).2, 0))) := fun W v k hW ho => by
    obtain ⟨s, kk, e, hi⟩ := own_ints ho
    exact ⟨s, kk, e, srn_any V sl cap cs sl2 cap2 ds s kk (negW zs) W hV hn hnd hneg hw (hz.below hW) (hd.below hW) hi⟩
  have FIN : Hid (decide (0 ≤ (uRun (bareC cs) (bareC ds) (negW zs)).2) = B (FoOk (V : Int) (bareC cs) (bareC ds) zs)) := by
    rcases resF_ge (bareC cs ++ bareC ds) (97 - (negW zs).length) (negW zs) with g | g
    · have g' : (uRun (bareC cs) (bareC ds) (negW zs)).2 = -1 := g
      show _ = _
      rw [B_no (fun h : FoOk (V : Int) (bareC cs) (bareC ds) zs => h.2 g'), g']
      rfl
    · have g' : 0 ≤ (uRun (bareC cs) (bareC ds) (negW zs)).2 := g
      show _ = _
      rw [B_yes (show FoOk (V : Int) (bareC cs) (bareC ds) zs from ⟨c4, by omega⟩)]
      exact decide_eq_true g'
  have ZC : Hid (∀ W, Below w.heap.size w W → ∀ k, k < zs.length → ∃ c o, sl3 = some ⟨c, o, none⟩ ∧ c < W.heap.size ∧ W.cell? ⟨c, o + k, none⟩ = some (.int .i64 (zs.getD k 0)) ∧ wrap64 (-zs.getD k 0) = (negW zs).getD k 0) := fun W hW k hk => by
    rcases ht with e | ⟨c, o, e, hi⟩
    · rw [e] at hk; simp at hk
    · exact ⟨c, o, e, Nat.lt_of_lt_of_le hi.1 hW.size, (hW.cell hi.1).trans (hi.2 k hk), (negW_at zs k hk).symm⟩
  have TK : Hid (∀ k, k < zs.length → (negW zs).take (k + 1) = (negW zs).take k ++ [(negW zs).getD k 0]) := fun k hk => take_one _ k (by rw [negW_len]; exact hk)
  have TL : Hid (∀ k, k ≤ zs.length → ((negW zs).take k).length = k) := fun k hk => by rw [List.length_take, negW_len]; omega
  have TE : Hid ((negW zs).take zs.length = negW zs) := List.take_of_length_le (by rw [negW_len]; omega)
  have NL := Lib.hid (negW_len zs)
  clear hz hd ht hb hw c4 hneg
  generalize B (FoOk (V : Int) (bareC cs) (bareC ds) zs) = r at *
  generalize uRun (bareC cs) (bareC ds) (negW zs) = R at *
  generalize cs.length = n at *
  generalize ds.length = m at *
  generalize negW zs = ys at *
  generalize hq : zs.length = q at *
  clear hq
  go_enter Tryd.func69, Tryd.ntmps69
  go_wp2_with fail
  refine E1.out.mono ?_
  rintro e w1 ⟨rfl, b1⟩
  have D1 := Lib.hid (bT B1.out b1)
  have C1 := Lib.hid (CA.out.below b1)
  have hs1 := D1.out.size
  clear b1 CA E1 B1 q0 q1 ql
  have OW := Lib.hid (own_none8 w1)
  have D2 := Lib.hid (bA0 w1 (.cells #[] 2))
  go_wp2
  generalize w1.alloc (.cells #[] 2) = wA at *
  go_loopw [7, 8] (fun v a wr => ∃ (k : Nat) (y : Int), a = .int .i64 y ∧ Hid (y = (k : Int) ∧ k ≤ q) ∧ Hid (wr.ownsRow w1.heap.size 2 1 v ((ys.take k).length) (valsZ (ys.take k))) ∧ Hid (Below w1.heap.size w1 wr)) (fun _ a _ => ((q : Int) - intOf a).toNat)
  case atStart => exact ⟨0, 0, rfl, ⟨rfl, Nat.zero_le _⟩, OW, D2⟩
  case round =>
    obtain ⟨k, y, rfl, HK, H1, H2⟩ := hrel
    clear OW D2
    obtain ⟨vs, vk, rfl⟩ := own_v H1.out
    have hTL := TL.out k HK.out.2
    by_cases hk : k < q
    · have hlt : y < (q : Int) := by have := HK.out.1; omega
      have hy0 : 0 ≤ y := by have := HK.out.1; omega
      have hyk : y.toNat = k := by have := HK.out.1; omega
      obtain ⟨c, o, hsl, hcl, hcell, hwz⟩ := ZC.out wr (bT D1.out H2.out) k hk
      subst hsl
      have hc2 : wr.cell? ⟨c, o + y.toNat, none⟩ = some (.int .i64 (zs.getD k 0)) := by rw [hyk]; exact hcell
      have hBw := H2.out.size
      obtain ⟨v9, w9, ha, ow, gr, hj⟩ := appZ (own_below H1.out (bA0 wr (.cells #[.int .i64 (ys.getD k 0)] 2))) 1 (ints_new wr (ys.getD k 0)) (by simp; omega) (by rw [hTL]; simp; omega)
      obtain ⟨s9, k9, rfl⟩ := own_v ow
      have B9 := Lib.hid ((bA H2.out (.cells #[.int .i64 (ys.getD k 0)] 2)).grown gr (by simp; omega) (fun j hj => (H1.out.lt j hj).1))
      have O9 : Hid (w9.ownsRow w1.heap.size 2 1 (.slice s9 (ys.take k ++ [ys.getD k 0]).length k9) (ys.take (k + 1)).length (valsZ (ys.take (k + 1)))) := by
        show World.ownsRow _ _ _ _ _ _ _
        rw [TK.out k hk]; exact ow
      have ha' := ha 26
      have hwy : wrap64 (y + 1) = y + 1 := wrap_in _ ⟨by omega, by omega⟩
      have MES : Hid (((q : Int) - (y + 1)).toNat < ((q : Int) - y).toNat) := by show _ < _; omega
      have REL : Hid (∃ (k2 : Nat) (y2 : Int), Value.int .i64 (y + 1) = .int .i64 y2 ∧ Hid (y2 = (k2 : Int) ∧ k2 ≤ q) ∧ Hid (w9.ownsRow w1.heap.size 2 1 (.slice s9 (ys.take k ++ [ys.getD k 0]).length k9) ((ys.take k2).length) (valsZ (ys.take k2))) ∧ Hid (Below w1.heap.size w1 w9)) := ⟨k + 1, y + 1, rfl, ⟨by have := HK.out.1; omega, by omega⟩, O9, B9⟩
      clear hcell hyk ow gr hj ha H1 H2 HK O9 B9 ZC TK TL TE RU
      generalize (ys.take k ++ [ys.getD k 0]).length = n9 at *
      generalize (ys.take k).length = n8 at *
      generalize zs.getD k 0 = z at *
      generalize ys.getD k 0 = z2 at *
      go_wp2_with (at_builtin; refine Lib.wpList_append_run _ rfl _ _ _ _ rfl _ _ rfl rfl _ _ ha' ?_)
      try rw [hwy]
      exact ⟨REL.out, MES.out⟩
    · have hlt : ¬ y < (q : Int) := by have := HK.out.1; omega
      have hkq : k = q := by have := HK.out.2; omega
      subst hkq
      have hO := H1.out
      rw [TE.out] at hO
      obtain ⟨s, kk, e, hcall⟩ := RU.out wr _ _ (bT D1.out H2.out) hO
      have CALL := Lib.hid hcall
      have C3 := C1.out.below H2.out
      obtain ⟨t0, t1⟩ := C3.cells
      have tl := C3.lt
      have D3 := Lib.hid (bT D1.out H2.out)
      cases e
      rw [TE.out]
      clear hcall C3 H1 H2 hO ZC TK TL RU C1 TE hTL HK
      generalize ys.length = yn at *
      go_wp2_with fail
      refine CALL.out.mono ?_
      rintro e w4 ⟨v4, rfl, o4, b4⟩
      have D4 := Lib.hid (bT D3.out b4)
      obtain ⟨s4, k4, rfl⟩ := own_v o4
      clear o4 b4 CALL
      have hfd : ∀ w : World, (Instr.field 30 (UV (.slice s4 R.1.length k4) R.2 0) 1).run Tryd.prog w = .ok (.int .i64 R.2) w := fun _ => by kernel_rfl
      go_wp2
      go_ret
      exact ⟨by rw [← FIN.out]; rfl, D4.out⟩

set_option maxRecDepth 100000 in
/-- spec.l08More, of too many lists. -/
theorem sm_big (vars : Int) (sl : Option Addr) (n0 cap : Nat) (sl2 : Option Addr) (m cap2 : Nat) (w : World) (h : 400 < m) :
    Calls Tryd.prog 49 #[CV vars sl n0 cap, .slice sl2 m cap2] w fun e w' => e = .returned (.bool false) ∧ Below w.heap.size w w' := by
  have h' : (400 : Int) < (m : Int) := by omega
  go_enter Tryd.func49, Tryd.ntmps49
  go_wp2
  go_ret
  exact ⟨rfl, bA0 _ _⟩

set_option maxRecDepth 100000 in
set_option maxHeartbeats 4000000 in
/-- spec.LemmaRight. -/
theorem slm_any (vars : Int) (sl : Option Addr) (cap : Nat) (cs : List LCl) (sl2 : Option Addr) (cap2 : Nat) (ds : List LCl) (sl3 : Option Addr) (cap3 : Nat) (zs : List Int) (w : World) (hn : cs.length ≤ maxLen) (hnd : ds.length ≤ maxLen) (hm : zs.length ≤ 1048576) (hs : totC cs ≤ 1048576) (hs2 : totC ds ≤ 1048576) (hwf : WfC cs) (hz : Cls w sl cs) (hd : Cls w sl2 ds) (ht : Ints w sl3 zs) (hb : ∀ z ∈ zs, -9223372036854775808 ≤ z ∧ z ≤ 9223372036854775807) :
    Calls Tryd.prog 42 #[CV vars sl cs.length cap, .slice sl2 ds.length cap2, .slice sl3 zs.length cap3] w fun e w' => e = .returned (.bool (B (LmOk vars (bareC cs) (bareC ds) zs))) ∧ Below w.heap.size w w' := by
  have CA := Lib.hid (CnfAt.new w vars sl cs.length cap)
  have B1 := Lib.hid (bA0 w (.cells #[.int .i64 vars, .slice sl cs.length cap] 25))
  have hln := hn
  have hld := hnd
  unfold maxLen at hln hld
  obtain ⟨q0, q1⟩ := CA.out.cells
  have ql := CA.out.lt
  by_cases big : 400 < zs.length
  · rw [B_no (fun h : LmOk vars (bareC cs) (bareC ds) zs => h.1.2 big)]
    have h' : ¬ ((zs.length : Int) ≤ 400) := by omega
    clear hz hd ht hb hwf hs hs2 big
    generalize cs.length = n at *
    generalize ds.length = m at *
    generalize zs.length = q at *
    go_enter Tryd.func42, Tryd.ntmps42
    go_wp2
    go_ret
    exact ⟨rfl, B1.out⟩
  have h' : (zs.length : Int) ≤ 400 := by omega
  have E1 := Lib.hid (scr_any vars sl cap cs _ hn hs hwf (hz.below B1.out))
  by_cases c2 : CnfR vars (bareC cs)
  case neg =>
    rw [B_no (fun h : LmOk vars (bareC cs) (bareC ds) zs => c2 h.2.1)]
    rw [B_no c2] at E1
    clear hz hd ht hb hwf hs hs2 big c2
    generalize cs.length = n at *
    generalize ds.length = m at *
    generalize zs.length = q at *
    go_enter Tryd.func42, Tryd.ntmps42
    go_wp2_with fail
    refine E1.out.mono ?_
    rintro e w1 ⟨rfl, b1⟩
    have D1 := Lib.hid (bT B1.out b1)
    clear b1
    go_wp2
    go_ret
    exact ⟨rfl, D1.out⟩
  rw [B_yes c2] at E1
  have hcl : cs.length ≤ 4000 := by have := c2.2.1; rwa [bareC_length] at this
  have E2 : Hid (∀ W, Below w.heap.size w W → Calls Tryd.prog 49 #[CV vars sl cs.length cap, .slice sl2 ds.length cap2] W fun e w' => e = .returned (.bool (B (¬ 400 < ds.length ∧ MoR vars (bareC ds)))) ∧ Below W.heap.size W w') := fun W hW => by
    by_cases h : 400 < ds.length
    · rw [B_no (fun g : ¬ 400 < ds.length ∧ MoR vars (bareC ds) => g.1 h)]
      exact sm_big vars sl cs.length cap sl2 ds.length cap2 W h
    · have := sm_any vars sl cs.length cap sl2 cap2 ds W c2.1.1 c2.1.2 (by omega) hs2 (hd.below hW)
      rw [B_iff (show MoR vars (bareC ds) ↔ (¬ 400 < ds.length ∧ MoR vars (bareC ds)) from ⟨fun g => ⟨h, g⟩, fun g => g.2⟩)] at this
      exact this
  by_cases c3 : ¬ 400 < ds.length ∧ MoR vars (bareC ds)
  case neg =>
    rw [B_no (fun h : LmOk vars (bareC cs) (bareC ds) zs => c3 ⟨by have := h.1.1; rwa [bareC_length] at this, h.2.2.1⟩)]
    rw [B_no c3] at E2
    clear hz hd ht hb hwf hs hs2 big c2 c3
    generalize cs.length = n at *
    generalize ds.length = m at *
    generalize zs.length = q at *
    go_enter Tryd.func42, Tryd.ntmps42
    go_wp2_with fail
    refine E1.out.mono ?_
    rintro e w1 ⟨rfl, b1⟩
    have D1 := Lib.hid (bT B1.out b1)
    obtain ⟨t0, t1⟩ := (CA.out.below b1).cells
    have tl := (CA.out.below b1).lt
    clear b1
    go_wp2_with fail
    refine (E2.out _ D1.out).mono ?_
    rintro e w2 ⟨rfl, b2⟩
    have D2 := Lib.hid (bT D1.out b2)
    clear b2
    go_wp2
    go_ret
    exact ⟨rfl, D2.out⟩
  rw [B_yes c3] at E2
  obtain ⟨V, rfl⟩ : ∃ V : Nat, vars = (V : Int) := ⟨vars.toNat, by have := c2.1.1; omega⟩
  have E3 : Hid (∀ W, Below w.heap.size w W → Calls Tryd.prog 69 #[CV (V : Int) sl cs.length cap, .slice sl2 ds.length cap2, .slice sl3 zs.length cap3] W fun e w' => e = .returned (.bool (B (LmOk (V : Int) (bareC cs) (bareC ds) zs))) ∧ Below W.heap.size W w') := fun W hW => by
    have := sfo_any V sl cap cs sl2 cap2 ds sl3 cap3 zs W (by have := c2.1.2; omega) (by omega) (by omega) hm (fun r hr z hz' => by
      rcases List.mem_append.1 hr with hr | hr
      · exact cnfR_lits c2 (fun l hl => by obtain ⟨r', hr', rfl⟩ := List.mem_map.1 hl; exact hwf r' hr') r.2 (List.mem_map.2 ⟨r, hr, rfl⟩) z hz'
      · exact moR_lits c3.2 r.2 (List.mem_map.2 ⟨r, hr, rfl⟩) z hz') (hz.below hW) (hd.below hW) (ht.below hW) hb
    rw [B_iff (show FoOk (V : Int) (bareC cs) (bareC ds) zs ↔ LmOk (V : Int) (bareC cs) (bareC ds) zs from ⟨fun g => ⟨⟨by rw [bareC_length]; exact c3.1, big⟩, c2, c3.2, g.1, g.2⟩, fun g => ⟨g.2.2.2.1, g.2.2.2.2⟩⟩)] at this
    exact this
  clear hz hd ht hb hwf hs hs2 big c2 c3
  generalize B (LmOk (V : Int) (bareC cs) (bareC ds) zs) = r at *
  generalize cs.length = n at *
  generalize ds.length = m at *
  generalize zs.length = q at *
  go_enter Tryd.func42, Tryd.ntmps42
  go_wp2_with fail
  refine E1.out.mono ?_
  rintro e w1 ⟨rfl, b1⟩
  have D1 := Lib.hid (bT B1.out b1)
  have C1 := Lib.hid (CA.out.below b1)
  obtain ⟨t0, t1⟩ := C1.out.cells
  have tl := C1.out.lt
  clear b1
  go_wp2_with fail
  refine (E2.out _ D1.out).mono ?_
  rintro e w2 ⟨rfl, b2⟩
  have D2 := Lib.hid (bT D1.out b2)
  have C2 := Lib.hid (C1.out.below b2)
  clear b2 t0 t1 tl
  obtain ⟨t0, t1⟩ := C2.out.cells
  have tl := C2.out.lt
  go_wp2_with fail
  refine (E3.out _ D2.out).mono ?_
  rintro e w3 ⟨rfl, b3⟩
  have D3 := Lib.hid (bT D2.out b3)
  clear b3
  go_wp2
  go_ret
  exact ⟨rfl, D3.out⟩

end Go.Proofs.YtoobcodlgajieaaDoor
