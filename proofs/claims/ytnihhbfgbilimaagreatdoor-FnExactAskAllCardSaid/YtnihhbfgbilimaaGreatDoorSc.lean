/-
  THE SOLVER OVER A BOOK: what is deferred; impl.Solve.
-/
import Derived.Test.YtnihhbfgbilimaaGreatDoorSb
import Derived.Test.YtnihhbfgbilimaaGreatDoorJb
namespace Go.Proofs.YtnihhbfgbilimaaGreatDoor
open Go.RowKit
open List (setIfInBounds_toArray set_cons_zero set_cons_succ getElem_toArray getElem_cons_succ getElem_cons_zero)
set_option linter.unusedVariables false

set_option maxRecDepth 100000 in
set_option maxHeartbeats 1000000 in
/-- Solve$1, entered by a frame that panics. -/
theorem catch_p {w w0 : World} {b ob : Nat} {V bud st : Int} {ms ls : List LCl} {D tr : List Int} {vc vl vd : Value} (W : World) (h : Sol w w0 b V bud st ms ls D tr vc vl vd W) (hx : BoxO W ob) :
    CallsD Tryz.prog 169 #[.pointer (some ⟨b, 0, none⟩), .pointer (some ⟨ob, 0, none⟩)] (.panicking thrown) W fun e u' w' => e = .returned (.tuple #[]) ∧ settle u' = .returning ∧ ∃ w1, Below W.heap.size W w1 ∧ w' = set5 w1 ob (.int .i64 3) (.slice none 0 0) vl (.int .i64 st) (.int .i64 0) := by
  have C := Lib.hid (told_any 3 W h)
  obtain ⟨lv, lk, rfl⟩ := h.ol.v
  have HX := Lib.hid (fun w1 hb => hx.below (w' := w1) hb)
  clear h hx
  refine callsD_of_wpS Tryz.func169 rfl fun c₀ cs hu => ?_
  apply wpS_seq
  apply wpS_region
  simp [wpOpsS, go_sem, recoverD, hu, Tryz.ntmps169, Exit.thenS, thrown]
  refine wpS_cond (t := true) (by simp [Act.eval, Array.replicate]) ?_
  simp only [if_true]
  refine wpS_of_wp ?_
  go_wp2_with fail
  refine C.out.mono ?_
  rintro e w1 ⟨rfl, b1⟩
  obtain ⟨bl6, c0, c1, c2, c3, c4, f0, f1, f2, f3, f4⟩ := (HX.out w1 b1).facts
  have B1 := Lib.hid b1
  clear b1
  go_wp2
  exact ⟨rfl, _, rfl, .tuple #[], by simp [results, Tryz.results169, go_sem], rfl, by simp [settle], w1, B1.out, rfl⟩

set_option maxRecDepth 100000 in
set_option maxHeartbeats 1000000 in
/-- Solve$1, entered by a frame that returns. -/
theorem catch_i (p q : Value) (W : World) :
    CallsD Tryz.prog 169 #[p, q] .returning W fun e u' w' => e = .returned (.tuple #[]) ∧ settle u' = .returning ∧ w' = W := by
  refine callsD_of_wpS Tryz.func169 rfl fun c₀ cs hu => ?_
  apply wpS_seq
  apply wpS_region
  simp [wpOpsS, go_sem, recoverD, hu, Tryz.ntmps169, Exit.thenS]
  refine wpS_cond (t := false) (by simp [Act.eval, Array.replicate]) ?_
  simp only [Bool.false_eq_true, if_false]
  refine wpS_of_wp (wp_skip ?_)
  cases c₀
  simp_all [bodyPostS, results, Tryz.results169, settle]

theorem leaves_eq {P : Program} {fn : Func} {R : Ending → World → Prop} {t1 t2 : Array Value} (h : results fn t1 = results fn t2) : ∀ ds : List Deferred, Leaves P fn t1 R ds = Leaves P fn t2 R ds
  | [] => by funext u w; cases u <;> simp [Leaves, h]
  | d :: ds => by
    have ih := leaves_eq (P := P) (R := R) h ds
    funext u w
    simp only [Leaves, ih]
theorem pan8 {R : Ending → World → Prop} {ch : List PanicEntry} {a : Act} {w : World} (d : Nat) (v : Value) (hd : d ≠ 4) (h : bodyPostD Tryz.prog Tryz.f139 R (.panic ch) (a.put (some d) v) w) : bodyPostD Tryz.prog Tryz.f139 R (.panic ch) a w := by
  have e : results Tryz.f139 (a.put (some d) v).tmps = results Tryz.f139 a.tmps := by
    have e4 : (a.tmps.setIfInBounds d v)[4]?.getD undef = a.tmps[4]?.getD undef := by rw [Array.getElem?_setIfInBounds_ne hd]
    simp [results, Tryz.results139, Act.put, e4]
  have h' : Leaves Tryz.prog Tryz.f139 (a.put (some d) v).tmps R a.defers (.panicking ch) w := h
  rw [leaves_eq e] at h'
  exact h'
theorem Bk.mono {B B' bb : Nat} {vc : Value} {hs : List Value} {ms : List LCl} {rows : Nat → List Nat} {W : World} (h : Bk B bb vc hs ms rows W) (hB : B' ≤ B) : Bk B' bb vc hs ms rows W :=
  ⟨Nat.le_trans hB h.hb, h.blk, h.len, own_mono h.rc hB, fun i hi => own_mono (h.row i hi) hB, h.diff⟩
/-- The solver, just laid. -/
theorem solNew {w X : World} {g V bd bb : Nat} {cs : List LCl} {old : Array Value} {vr : Value} {hs : List Value} (hg : X.heap[g]? = some (.cells old 212)) (hrc : Bk w.heap.size bb vr hs cs (occI (bareC cs)) X) (hb : Below w.heap.size w X) (hwg : w.heap.size ≤ g) :
    Sol w (X.setRow g (SF (V : Int) (bd : Int) 0 (.pointer (some ⟨bb, 0, none⟩)) (.slice none 0 0) (.slice none 0 0) ++ List.replicate 97 (Value.int .i64 0)).toArray) g V bd 0 cs [] [] [] (.pointer (some ⟨bb, 0, none⟩)) (.slice none 0 0) (.slice none 0 0) (X.setRow g (SF (V : Int) (bd : Int) 0 (.pointer (some ⟨bb, 0, none⟩)) (.slice none 0 0) (.slice none 0 0) ++ List.replicate 97 (Value.int .i64 0)).toArray) :=
  ⟨⟨rfl, by rw [vL_nil]; exact setRow_heap _ _ _ _ _ _ hg⟩, ⟨bb, vr, hs, rfl, hrc.only (Only.setRow _ _) hg (by decide)⟩, OwC.nil _ _, ⟨rfl, .inl ⟨rfl, rfl⟩⟩, (fun r hr => by cases hr), below_setRow hb hwg _, hwg, K30.refl _⟩
theorem budget_any (bud : Int) (W : World) : Calls Tryz.prog 76 #[.int .i64 bud] W fun e w' => e = .returned (.bool (B (0 ≤ bud ∧ bud ≤ 300))) ∧ w' = W := by
  by_cases h0 : 0 ≤ bud
  · by_cases h1 : bud ≤ 300
    · rw [B_yes ⟨h0, h1⟩]
      go_enter Tryz.func76, Tryz.ntmps76
      go_wp2
      go_ret
      exact ⟨rfl, rfl⟩
    · rw [B_no (fun g : 0 ≤ bud ∧ bud ≤ 300 => h1 g.2)]
      go_enter Tryz.func76, Tryz.ntmps76
      go_wp2
      go_ret
      exact ⟨rfl, rfl⟩
  · rw [B_no (fun g : 0 ≤ bud ∧ bud ≤ 300 => h0 g.1)]
    go_enter Tryz.func76, Tryz.ntmps76
    go_wp2
    go_ret
    exact ⟨rfl, rfl⟩

set_option maxRecDepth 100000 in
set_option maxHeartbeats 8000000 in
/-- impl.Solve. -/
theorem iso_any (vars bud : Int) (sl : Option Addr) (cap : Nat) (cs : List LCl) (w : World) (hn : cs.length ≤ maxLen) (hz : Cls w sl cs) (hwf : ∀ l ∈ bareC cs, ∀ z ∈ l, wfI z) (hT : TabB w) :
    Calls Tryz.prog 139 #[CV vars sl cs.length cap, .int .i64 bud] w (SPost w (solA vars (bareC cs) bud)) := by
  have b0 := bA0 w (.cells #[.int .i64 vars, .slice sl cs.length cap] 110)
  have b1 := bA b0 (.cells #[.int .i64 0, .slice none 0 0, .slice none 0 0, .int .i64 0, .int .i64 0] 107)
  have hs1 : ((w.alloc (.cells #[.int .i64 vars, .slice sl cs.length cap] 110)).alloc (.cells #[.int .i64 0, .slice none 0 0, .slice none 0 0, .int .i64 0, .int .i64 0] 107)).heap.size = w.heap.size + 2 := by simp
  have X1 : Hid (BoxO ((w.alloc (.cells #[.int .i64 vars, .slice sl cs.length cap] 110)).alloc (.cells #[.int .i64 0, .slice none 0 0, .slice none 0 0, .int .i64 0, .int .i64 0] 107)) (w.heap.size + 1)) := by
    have := new_at (w.alloc (.cells #[.int .i64 vars, .slice sl cs.length cap] 110)) (.cells #[.int .i64 0, .slice none 0 0, .slice none 0 0, .int .i64 0, .int .i64 0] 107)
    rw [show (w.alloc (.cells #[.int .i64 vars, .slice sl cs.length cap] 110)).heap.size = w.heap.size + 1 by simp] at this
    exact this
  have CA := (CnfAt.new w vars sl cs.length cap).below (bA0 _ (.cells #[.int .i64 0, .slice none 0 0, .slice none 0 0, .int .i64 0, .int .i64 0] 107))
  obtain ⟨q0, q1⟩ := CA.cells
  have ql := CA.lt
  have CA' := Lib.hid CA
  have CA' := Lib.hid CA
  have CA' := Lib.hid CA
  have CR := Lib.hid (icr_any vars sl cap cs ((w.alloc (.cells #[.int .i64 vars, .slice sl cs.length cap] 110)).alloc (.cells #[.int .i64 0, .slice none 0 0, .slice none 0 0, .int .i64 0, .int .i64 0] 107)) hn (hz.below b1))
  have hmf : ∀ (fn : Fn) (first cap : Array Value) (w : World), (Instr.makeFunc fn first cap).run Tryz.prog w = .ok (.func fn first cap) w := fun _ _ _ _ => rfl
  have B1 := Lib.hid b1
  by_cases hok : SolOk vars (bareC cs) bud
  case neg =>
    rw [solA_no hok]
    clear CA hz hwf hn b0 b1 hT
    by_cases hcr : CnfR vars (bareC cs)
    · rw [B_yes hcr] at CR
      have BR := Lib.hid (show ∀ W, Calls Tryz.prog 76 #[.int .i64 bud] W fun e w' => e = .returned (.bool false) ∧ W = w' from fun W => by
        have := budget_any bud W
        rw [B_no (fun g : 0 ≤ bud ∧ bud ≤ 300 => hok ⟨hcr, g⟩)] at this
        exact this.mono (fun e w' h => ⟨h.1, h.2.symm⟩))
      clear hcr hok
      generalize cs.length = cn at *
      go_enter_defers Tryz.func139, Tryz.ntmps139
      go_wp2_with (first | (go_at_call 76; refine (BR.out _).mono ?_; rintro e w9 ⟨rfl, rfl⟩) | (go_at_call 167; refine CR.out.mono ?_; rintro e w1 ⟨rfl, bb1⟩; have X := X1.out.below bb1; obtain ⟨bl6, c0, c1, c2, c3, c4, f0, f1, f2, f3, f4⟩ := X.facts; have XX := Lib.hid X; have BB := Lib.hid (bT B1.out bb1); clear X bb1))
      have X6 := XX.out
      have V6 : SoV w.heap.size (0, [], [], 0) (.slice none 0 0) (.slice none 0 0) [] w1 := ⟨⟨rfl, .inl ⟨rfl, rfl⟩⟩, OwC.nil _ _, rfl, fun r hr j hj e => by cases e⟩
      have A6 := set5_at (v0 := .int .i64 0) (v1 := .slice none 0 0) (v2 := .slice none 0 0) (v3 := .int .i64 0) (v4 := .int .i64 1) X6
      obtain ⟨r0, r1, r2, r3, r4⟩ := cells5 A6
      exact ⟨.agg #[.int .i64 0, .slice none 0 0, .slice none 0 0, .int .i64 0, .int .i64 1], by unfold set5 at r0 r1 r2 r3 r4; simp [results, Tryz.results139, go_sem, r0, r1, r2, r3, r4], _, _, [], rfl, V6.only (set5_only _ _ _ _ _ _ _) X6, Only.below BB.out (by omega) (set5_only _ _ _ _ _ _ _)⟩
    · rw [B_no hcr] at CR
      clear hcr hok
      generalize cs.length = cn at *
      go_enter_defers Tryz.func139, Tryz.ntmps139
      go_wp2_with (go_at_call 167; refine CR.out.mono ?_; rintro e w1 ⟨rfl, bb1⟩; have X := X1.out.below bb1; obtain ⟨bl6, c0, c1, c2, c3, c4, f0, f1, f2, f3, f4⟩ := X.facts; have XX := Lib.hid X; have BB := Lib.hid (bT B1.out bb1); clear X bb1)
      have X6 := XX.out
      have V6 : SoV w.heap.size (0, [], [], 0) (.slice none 0 0) (.slice none 0 0) [] w1 := ⟨⟨rfl, .inl ⟨rfl, rfl⟩⟩, OwC.nil _ _, rfl, fun r hr j hj e => by cases e⟩
      have A6 := set5_at (v0 := .int .i64 0) (v1 := .slice none 0 0) (v2 := .slice none 0 0) (v3 := .int .i64 0) (v4 := .int .i64 1) X6
      obtain ⟨r0, r1, r2, r3, r4⟩ := cells5 A6
      exact ⟨.agg #[.int .i64 0, .slice none 0 0, .slice none 0 0, .int .i64 0, .int .i64 1], by unfold set5 at r0 r1 r2 r3 r4; simp [results, Tryz.results139, go_sem, r0, r1, r2, r3, r4], _, _, [], rfl, V6.only (set5_only _ _ _ _ _ _ _) X6, Only.below BB.out (by omega) (set5_only _ _ _ _ _ _ _)⟩
  rw [solA_yes hok]
  obtain ⟨hcr, hb0, hb3⟩ := hok
  rw [B_yes hcr] at CR
  obtain ⟨V, rfl⟩ : ∃ V : Nat, vars = (V : Int) := ⟨vars.toNat, by have := hcr.1.1; omega⟩
  obtain ⟨bd, rfl⟩ : ∃ n : Nat, bud = (n : Int) := ⟨bud.toNat, by omega⟩
  have hV : V ≤ 96 := by have := hcr.1.2; omega
  have hcl : cs.length ≤ 4000 := by have := hcr.2.1; rwa [bareC_length] at this
  simp only [Int.toNat_natCast]
  have HI : Hid (RunI w cs V bd (solF (bareC cs) V bd 0 [] []) 0 cs [] []) := ⟨by simp [bareC], fun r hr => .inl (hz.each r hr), ⟨cnfR_lits hcr hwf, (fun l hl => by cases hl), SpTo.zero _ _⟩, Nat.le_refl _, Nat.zero_le _, rfl, fun r hr => cnfR_dup hcr r.2 (List.mem_map.2 ⟨r, hr, rfl⟩)⟩
  have hb0' : ¬ ((bd : Int) < 0) := by omega
  have hb3' : ¬ (300 < (bd : Int)) := by omega
  have hb3n : bd ≤ 300 := by omega
  have CW : Hid (∀ W, Below w.heap.size w W → Calls Tryz.prog 168 #[CV (V : Int) sl cs.length cap, .slice none 0 0] W fun e w' => e = .returned (.pointer (some ⟨W.heap.size + 1, 0, none⟩)) ∧ (∃ (vr : Value) (hs : List Value), Bk w.heap.size (W.heap.size + 1) vr hs cs (occI (bareC cs)) w') ∧ Below W.heap.size W w') := fun W hW => by
    have := bookOf_any (V : Int) sl cap cs none 0 [] W (by omega) (by simp) (hz.below hW) ⟨.inl rfl, fun r hr => by cases hr⟩ (fun r hr => by
      rw [List.append_nil] at hr
      have hm : r.2 ∈ bareC cs := List.mem_map.2 ⟨r, hr, rfl⟩
      have h1 := cnfR_lits hcr hwf r.2 hm
      have h2 := cnfR_dup hcr r.2 hm
      exact ⟨fun z hz' => by have := h1 z hz'; unfold OkZ at this; omega, h2⟩)
    simp only [List.append_nil, List.length_nil] at this
    refine this.mono ?_
    rintro e w' ⟨rfl, ⟨vr, hs, k⟩, b⟩
    exact ⟨rfl, ⟨vr, hs, k.mono hW.size⟩, b⟩
  have BR := Lib.hid (show ∀ W, Calls Tryz.prog 76 #[.int .i64 (bd : Int)] W fun e w' => e = .returned (.bool true) ∧ W = w' from fun W => by
    have := budget_any (bd : Int) W
    rw [B_yes (⟨hb0, hb3⟩ : 0 ≤ (bd : Int) ∧ (bd : Int) ≤ 300)] at this
    exact this.mono (fun e w' h => ⟨h.1, h.2.symm⟩))
  have RU : Hid (∀ W b vc, b ≠ 0 → Sol w W b V bd 0 cs [] [] [] vc (.slice none 0 0) (.slice none 0 0) W → Calls Tryz.prog 171 #[.pointer (some ⟨b, 0, none⟩)] W (RPost w W b V bd (solF (bareC cs) V bd 0 [] []))) := fun W b vc h0 h => run_any _ W h hV hb3n hcl HI.out hT h0
  clear hcr hwf hn hz b0 b1 CA hT
  generalize hR : solF (bareC cs) V bd 0 [] [] = R at *
  clear hR
  generalize hcm : cs.length = cn at *
  go_enter_defers Tryz.func139, Tryz.ntmps139
  go_wp2_with (first | (go_at_call 76; refine (BR.out _).mono ?_; rintro e w9 ⟨rfl, rfl⟩) | (go_at_call 167; refine CR.out.mono ?_; rintro e w1 ⟨rfl, bb1⟩))
--@R3
  have D1' : Below w.heap.size w w1 := bT B1.out bb1
  have D1 := Lib.hid D1'.drew
  have F1 : Hid (Below w1.heap.size w1 w1.drew) := (Below.refl _ _).drew
  have X1w := Lib.hid (X1.out.below bb1)
  have KT : Hid (∀ W, Below w1.heap.size w1 W → w.heap.size < W.heap.size ∧ W.cell? ⟨w.heap.size, 0, none⟩ = some (.int .i64 (V : Int)) ∧ W.cell? ⟨w.heap.size, 1, none⟩ = some (.slice sl cn cap)) := fun W hW => by
    have h := (CA'.out.below bb1).below hW
    exact ⟨h.lt, h.cells⟩
  clear D1' bb1 CR q0 q1 ql
  refine wp_region_held_drew (S := fun W => w.heap.size < W.heap.size ∧ W.cell? ⟨w.heap.size, 0, none⟩ = some (.int .i64 (V : Int)) ∧ W.cell? ⟨w.heap.size, 1, none⟩ = some (.slice sl cn cap)) (by kernel_rfl) ?_ (fun hHeld => ?_)
  · exact KT.out _ F1.out
  refine wpAnyH_take (i := 0) (v := ?_) rfl (by kernel_rfl) (by kernel_rfl) (by kernel_rfl) (fun _ _ _ h => pan8 15 _ (by decide) h) (Or.inl ⟨by rfl, ?_⟩) ‹_› ?_
  rotate_left
  · intro w hSw; (try dsimp only at hSw); go_simp; try with_reducible rfl
  try simp only [Act.put, setIfInBounds_toArray, set_cons_zero, set_cons_succ, getElem_toArray, getElem_cons_zero]
  refine wpAnyH_take (i := 1) (v := ?_) rfl (by kernel_rfl) (by kernel_rfl) (by kernel_rfl) (fun _ _ _ h => pan8 16 _ (by decide) h) (Or.inl ⟨by rfl, ?_⟩) ‹_› ?_
  rotate_left
  · intro w hSw; (try dsimp only at hSw); go_simp; try with_reducible rfl
  try simp only [Act.put, setIfInBounds_toArray, set_cons_zero, set_cons_succ, getElem_toArray, getElem_cons_succ, getElem_cons_zero]
  refine wpAnyH_take (i := 2) (v := ?_) rfl (by kernel_rfl) (by kernel_rfl) (by kernel_rfl) (fun _ _ _ h => pan8 17 _ (by decide) h) (Or.inl ⟨by rfl, ?_⟩) ‹_› ?_
  rotate_left
  · intro w hSw; (try dsimp only at hSw); go_simp; try with_reducible rfl
  try simp only [Act.put, setIfInBounds_toArray, set_cons_zero, set_cons_succ, getElem_toArray, getElem_cons_succ, getElem_cons_zero]
  refine wpAnyH_take (i := 3) (v := ?_) rfl (by kernel_rfl) (by kernel_rfl) (by kernel_rfl) (fun _ _ _ h => pan8 18 _ (by decide) h) (Or.inl ⟨by rfl, ?_⟩) ‹_› ?_
  rotate_left
  · intro w hSw; (try dsimp only at hSw); go_simp; try with_reducible rfl
  try simp only [Act.put, setIfInBounds_toArray, set_cons_zero, set_cons_succ, getElem_toArray, getElem_cons_succ, getElem_cons_zero]
  refine wpAnyH_ready (rs := [4, 6]) (by kernel_rfl) (by simp) ?_
  refine AllReadyH.cons rfl (fun K hK => ?_) (AllReadyH.cons rfl (fun K hK => ?_) AllReadyH.nil)
  · go_simp
    go_wp2_with (go_at_call 168; refine (CW.out _ D1.out).mono ?_; rintro e w2 ⟨rfl, ⟨vr2, hs2, o2⟩, b2⟩)
    have D2 := Lib.hid (bT D1.out b2)
    have O2 : Hid (Bk w.heap.size (w1.heap.size + 1) vr2 hs2 cs (occI (bareC cs)) w2) := o2
    have F2 := Lib.hid (bT F1.out b2)
    have HCE : Hid ((((Tryz.zeroCells212.setIfInBounds 0 (.int .i64 (V : Int))).setIfInBounds 1 (.int .i64 (bd : Int))).setIfInBounds 3 (.pointer (some ⟨w1.heap.size + 1, 0, none⟩))) = (SF (V : Int) (bd : Int) 0 (.pointer (some ⟨w1.heap.size + 1, 0, none⟩)) (.slice none 0 0) (.slice none 0 0) ++ List.replicate 97 (Value.int .i64 0)).toArray) := by
      show _ = _
      kernel_rfl
    clear o2 b2
    refine hK.out _ _ ?_ (fun hHeld => ?_)
    · exact KT.out _ F2.out
    clear hK K
    refine wpAnyH_take (i := 5) (v := ?_) rfl (by kernel_rfl) (by kernel_rfl) (by kernel_rfl) (fun _ _ _ h => pan8 20 _ (by decide) h) (Or.inl ⟨by rfl, ?_⟩) ‹_› ?_
    rotate_left
    · intro w hSw; (try dsimp only at hSw); go_simp; try with_reducible rfl
    try simp only [Act.put, setIfInBounds_toArray, set_cons_zero, set_cons_succ, getElem_toArray, getElem_cons_succ, getElem_cons_zero]
    refine wpAnyH_ready (rs := [6]) (by kernel_rfl) (by simp) ?_
    refine AllReadyH.cons rfl (fun K hK => ?_) AllReadyH.nil
    go_simp
    have AD := Lib.hid (bA D2.out (.cells Tryz.zeroCells212 212))
    have AF := Lib.hid (bA F2.out (.cells Tryz.zeroCells212 212))
    have AR : Hid ((w2.alloc (.cells Tryz.zeroCells212 212)).heap[w2.heap.size]? = some (.cells Tryz.zeroCells212 212)) := new_at _ _
    have hg : w.heap.size ≤ w2.heap.size := D2.out.size
    have hg1 : w1.heap.size ≤ w2.heap.size := F2.out.size
    refine hK.out _ _ ?_ (fun hHeld => ?_)
    · exact KT.out _ AF.out
    clear hK K
    have O2a := Lib.hid (O2.out.below (bA0 w2 (.cells Tryz.zeroCells212 212)))
    refine wpAnyH_ready (rs := [7]) (by kernel_rfl) (by simp) ?_
    refine AllReadyH.cons rfl (fun K hK => ?_) AllReadyH.nil
    refine wp_store_row 212 _ _ rfl (w2.heap.size) (SF (V : Int) (bd : Int) 0 (.pointer (some ⟨w1.heap.size + 1, 0, none⟩)) (.slice none 0 0) (.slice none 0 0) ++ List.replicate 97 (Value.int .i64 0)).toArray (by simp [Act.eval]) (by exact congrArg Value.agg HCE.out) 212 _ AR.out (by kernel_rfl) (by kernel_rfl) (by kernel_rfl) ?_
    have F3 : Hid (Below w1.heap.size w1 ((w2.alloc (.cells Tryz.zeroCells212 212)).setRow (w2.heap.size) (SF (V : Int) (bd : Int) 0 (.pointer (some ⟨w1.heap.size + 1, 0, none⟩)) (.slice none 0 0) (.slice none 0 0) ++ List.replicate 97 (Value.int .i64 0)).toArray)) := below_setRow AF.out hg1 _
    have S3 := Lib.hid (solNew (V := V) (bd := bd) (cs := cs) AR.out O2a.out AD.out hg)
    have X3 : Hid (BoxO ((w2.alloc (.cells Tryz.zeroCells212 212)).setRow (w2.heap.size) (SF (V : Int) (bd : Int) 0 (.pointer (some ⟨w1.heap.size + 1, 0, none⟩)) (.slice none 0 0) (.slice none 0 0) ++ List.replicate 97 (Value.int .i64 0)).toArray) (w.heap.size + 1)) := (setRow_other _ _ _ _ (by have := X1w.out.facts.1; omega)).trans (X1w.out.below AF.out)
    refine hK.out _ _ ?_ (fun hHeld => ?_)
    · exact KT.out _ F3.out
    clear hK K
    try simp only [Act.put, List.getElem_toArray, List.getElem_cons_succ, List.getElem_cons_zero]
    refine wpAnyH_done (by kernel_rfl) ?_ _
    generalize (w2.alloc (.cells Tryz.zeroCells212 212)).setRow (w2.heap.size) (SF (V : Int) (bd : Int) 0 (.pointer (some ⟨w1.heap.size + 1, 0, none⟩)) (.slice none 0 0) (.slice none 0 0) ++ List.replicate 97 (Value.int .i64 0)).toArray = W3 at *
    have hg3 := X1w.out.facts.1
    clear AD AF AR HCE D1 F1 F3 KT
    go_wp2_with fail
    refine (RU.out _ _ _ (by omega) S3.out).mono ?_
    rintro e w4 (⟨vt, vl, ls, rfl, hv, hb4, hk⟩ | ⟨st, ms, ls, D, tr, vc', vl, vd, rfl, hR, hS⟩)
    · have X4 : BoxO w4 (w.heap.size + 1) := hk _ _ X3.out
      obtain ⟨ts, tk, rfl⟩ := own_v hv.tr
      obtain ⟨lv, lk, rfl⟩ := hv.ol.v
      have V4 := Lib.hid (hv.only (set5_only w4 (w.heap.size + 1) (.int .i64 R.1) (.slice ts R.2.1.length tk) (.slice lv ls.length lk) (.int .i64 R.2.2.2) (.int .i64 0)) X4)
      have B4 := Lib.hid (Only.below hb4 (by omega) (set5_only w4 (w.heap.size + 1) (.int .i64 R.1) (.slice ts R.2.1.length tk) (.slice lv ls.length lk) (.int .i64 R.2.2.2) (.int .i64 0)))
      have A4 := set5_at (v0 := .int .i64 R.1) (v1 := .slice ts R.2.1.length tk) (v2 := .slice lv ls.length lk) (v3 := .int .i64 R.2.2.2) (v4 := .int .i64 0) X4
      obtain ⟨r0, r1, r2, r3, r4⟩ := cells5 A4
      obtain ⟨bl6, c0, c1, c2, c3, c4, f0, f1, f2, f3, f4⟩ := X4.facts
      unfold set5 at V4 B4 r0 r1 r2 r3 r4
      clear hv hb4 hk X4 A4 RU S3 X3
      go_wp2
      refine leaves_cons (f := 169) (args := #[.pointer (some ⟨_, 0, none⟩), .pointer (some ⟨w.heap.size + 1, 0, none⟩)]) (by simp) (by simp [go_sem]; rfl) ?_
      refine (catch_i _ _ _).mono ?_
      rintro e u' w5 ⟨rfl, hu, rfl⟩
      dsimp only
      rw [hu]
      exact ⟨.agg #[.int .i64 R.1, .slice ts R.2.1.length tk, .slice lv ls.length lk, .int .i64 R.2.2.2, .int .i64 0], by simp [results, Tryz.results139, go_sem, r0, r1, r2, r3, r4], _, _, ls, rfl, V4.out, B4.out⟩
    · have X4 : BoxO w4 (w.heap.size + 1) := hS.kp _ _ X3.out
      obtain ⟨lv, lk, rfl⟩ := hS.ol.v
      have CP := Lib.hid (catch_p w4 hS X4)
      dsimp only
      refine leaves_cons (f := 169) (args := #[.pointer (some ⟨_, 0, none⟩), .pointer (some ⟨w.heap.size + 1, 0, none⟩)]) (by simp) (by simp [go_sem]; rfl) ?_
      refine CP.out.mono ?_
      rintro e u' w5 ⟨rfl, hu, w6, b6, rfl⟩
      dsimp only
      rw [hu]
      subst hR
      have X6 := X4.below b6
      have S6 := hS.below b6
      have V6 : SoV w.heap.size (3, [], bareC ls, st) (.slice none 0 0) (.slice lv ls.length lk) ls w6 := ⟨⟨rfl, .inl ⟨rfl, rfl⟩⟩, S6.ol, rfl, fun r hr j hj e => by cases e⟩
      have A6 := set5_at (v0 := .int .i64 3) (v1 := .slice none 0 0) (v2 := .slice lv ls.length lk) (v3 := .int .i64 st) (v4 := .int .i64 0) X6
      obtain ⟨r0, r1, r2, r3, r4⟩ := cells5 A6
      exact ⟨.agg #[.int .i64 3, .slice none 0 0, .slice lv ls.length lk, .int .i64 st, .int .i64 0], by simp [results, Tryz.results139, go_sem, r0, r1, r2, r3, r4], _, _, ls, rfl, V6.only (set5_only _ _ _ _ _ _ _) X6, Only.below S6.bl (by omega) (set5_only _ _ _ _ _ _ _)⟩
  · go_simp
    have AD := Lib.hid (bA D1.out (.cells Tryz.zeroCells212 212))
    have AF := Lib.hid (bA F1.out (.cells Tryz.zeroCells212 212))
    have AR : Hid ((w1.drew.alloc (.cells Tryz.zeroCells212 212)).heap[w1.heap.size]? = some (.cells Tryz.zeroCells212 212)) := new_at _ _
    have hg : w.heap.size ≤ w1.heap.size := D1.out.size
    have hg1 : w1.heap.size ≤ w1.heap.size := F1.out.size
    refine hK.out _ _ ?_ (fun hHeld => ?_)
    · exact KT.out _ AF.out
    clear hK K
    refine wpAnyH_ready (rs := [4]) (by kernel_rfl) (by simp) ?_
    refine AllReadyH.cons rfl (fun K hK => ?_) AllReadyH.nil
    go_simp
    go_wp2_with (go_at_call 168; refine (CW.out _ AD.out).mono ?_; rintro e w2 ⟨rfl, ⟨vr2, hs2, o2⟩, b2⟩)
    have D2 := Lib.hid (bT AD.out b2)
    have O2 : Hid (Bk w.heap.size (w1.heap.size + 1 + 1) vr2 hs2 cs (occI (bareC cs)) w2) := by
      have := o2
      rw [show (w1.drew.alloc (.cells Tryz.zeroCells212 212)).heap.size = w1.heap.size + 1 by simp] at this
      exact this
    have F2 := Lib.hid (bT AF.out b2)
    have HCE : Hid ((((Tryz.zeroCells212.setIfInBounds 0 (.int .i64 (V : Int))).setIfInBounds 1 (.int .i64 (bd : Int))).setIfInBounds 3 (.pointer (some ⟨w1.heap.size + 1 + 1, 0, none⟩))) = (SF (V : Int) (bd : Int) 0 (.pointer (some ⟨w1.heap.size + 1 + 1, 0, none⟩)) (.slice none 0 0) (.slice none 0 0) ++ List.replicate 97 (Value.int .i64 0)).toArray) := by
      show _ = _
      kernel_rfl
    have R2 : Hid (w2.heap[w1.heap.size]? = some (.cells Tryz.zeroCells212 212)) := ((b2.block _ (Array.getElem?_eq_some_iff.1 AR.out).1).trans AR.out)
    clear o2 b2
    refine hK.out _ _ ?_ (fun hHeld => ?_)
    · exact KT.out _ F2.out
    clear hK K
    refine wpAnyH_take (i := 5) (v := ?_) rfl (by kernel_rfl) (by kernel_rfl) (by kernel_rfl) (fun _ _ _ h => pan8 20 _ (by decide) h) (Or.inl ⟨by rfl, ?_⟩) ‹_› ?_
    rotate_left
    · intro w hSw; (try dsimp only at hSw); go_simp; try with_reducible rfl
    try simp only [Act.put, setIfInBounds_toArray, set_cons_zero, set_cons_succ, getElem_toArray, getElem_cons_succ, getElem_cons_zero]
    refine wpAnyH_ready (rs := [7]) (by kernel_rfl) (by simp) ?_
    refine AllReadyH.cons rfl (fun K hK => ?_) AllReadyH.nil
    refine wp_store_row 212 _ _ rfl (w1.heap.size) (SF (V : Int) (bd : Int) 0 (.pointer (some ⟨w1.heap.size + 1 + 1, 0, none⟩)) (.slice none 0 0) (.slice none 0 0) ++ List.replicate 97 (Value.int .i64 0)).toArray (by simp [Act.eval]) (by exact congrArg Value.agg HCE.out) 212 _ R2.out (by kernel_rfl) (by kernel_rfl) (by kernel_rfl) ?_
    have F3 : Hid (Below w1.heap.size w1 ((w2).setRow (w1.heap.size) (SF (V : Int) (bd : Int) 0 (.pointer (some ⟨w1.heap.size + 1 + 1, 0, none⟩)) (.slice none 0 0) (.slice none 0 0) ++ List.replicate 97 (Value.int .i64 0)).toArray)) := below_setRow F2.out hg1 _
    have S3 := Lib.hid (solNew (V := V) (bd := bd) (cs := cs) R2.out O2.out D2.out hg)
    have X3 : Hid (BoxO ((w2).setRow (w1.heap.size) (SF (V : Int) (bd : Int) 0 (.pointer (some ⟨w1.heap.size + 1 + 1, 0, none⟩)) (.slice none 0 0) (.slice none 0 0) ++ List.replicate 97 (Value.int .i64 0)).toArray) (w.heap.size + 1)) := (setRow_other _ _ _ _ (by have := X1w.out.facts.1; omega)).trans (X1w.out.below F2.out)
    refine hK.out _ _ ?_ (fun hHeld => ?_)
    · exact KT.out _ F3.out
    clear hK K
    try simp only [Act.put, List.getElem_toArray, List.getElem_cons_succ, List.getElem_cons_zero]
    refine wpAnyH_done (by kernel_rfl) ?_ _
    generalize (w2).setRow (w1.heap.size) (SF (V : Int) (bd : Int) 0 (.pointer (some ⟨w1.heap.size + 1 + 1, 0, none⟩)) (.slice none 0 0) (.slice none 0 0) ++ List.replicate 97 (Value.int .i64 0)).toArray = W3 at *
    have hg3 := X1w.out.facts.1
    clear AD AF AR HCE D1 F1 F3 KT
    go_wp2_with fail
    refine (RU.out _ _ _ (by omega) S3.out).mono ?_
    rintro e w4 (⟨vt, vl, ls, rfl, hv, hb4, hk⟩ | ⟨st, ms, ls, D, tr, vc', vl, vd, rfl, hR, hS⟩)
    · have X4 : BoxO w4 (w.heap.size + 1) := hk _ _ X3.out
      obtain ⟨ts, tk, rfl⟩ := own_v hv.tr
      obtain ⟨lv, lk, rfl⟩ := hv.ol.v
      have V4 := Lib.hid (hv.only (set5_only w4 (w.heap.size + 1) (.int .i64 R.1) (.slice ts R.2.1.length tk) (.slice lv ls.length lk) (.int .i64 R.2.2.2) (.int .i64 0)) X4)
      have B4 := Lib.hid (Only.below hb4 (by omega) (set5_only w4 (w.heap.size + 1) (.int .i64 R.1) (.slice ts R.2.1.length tk) (.slice lv ls.length lk) (.int .i64 R.2.2.2) (.int .i64 0)))
      have A4 := set5_at (v0 := .int .i64 R.1) (v1 := .slice ts R.2.1.length tk) (v2 := .slice lv ls.length lk) (v3 := .int .i64 R.2.2.2) (v4 := .int .i64 0) X4
      obtain ⟨r0, r1, r2, r3, r4⟩ := cells5 A4
      obtain ⟨bl6, c0, c1, c2, c3, c4, f0, f1, f2, f3, f4⟩ := X4.facts
      unfold set5 at V4 B4 r0 r1 r2 r3 r4
      clear hv hb4 hk X4 A4 RU S3 X3
      go_wp2
      refine leaves_cons (f := 169) (args := #[.pointer (some ⟨_, 0, none⟩), .pointer (some ⟨w.heap.size + 1, 0, none⟩)]) (by simp) (by simp [go_sem]; rfl) ?_
      refine (catch_i _ _ _).mono ?_
      rintro e u' w5 ⟨rfl, hu, rfl⟩
      dsimp only
      rw [hu]
      exact ⟨.agg #[.int .i64 R.1, .slice ts R.2.1.length tk, .slice lv ls.length lk, .int .i64 R.2.2.2, .int .i64 0], by simp [results, Tryz.results139, go_sem, r0, r1, r2, r3, r4], _, _, ls, rfl, V4.out, B4.out⟩
    · have X4 : BoxO w4 (w.heap.size + 1) := hS.kp _ _ X3.out
      obtain ⟨lv, lk, rfl⟩ := hS.ol.v
      have CP := Lib.hid (catch_p w4 hS X4)
      dsimp only
      refine leaves_cons (f := 169) (args := #[.pointer (some ⟨_, 0, none⟩), .pointer (some ⟨w.heap.size + 1, 0, none⟩)]) (by simp) (by simp [go_sem]; rfl) ?_
      refine CP.out.mono ?_
      rintro e u' w5 ⟨rfl, hu, w6, b6, rfl⟩
      dsimp only
      rw [hu]
      subst hR
      have X6 := X4.below b6
      have S6 := hS.below b6
      have V6 : SoV w.heap.size (3, [], bareC ls, st) (.slice none 0 0) (.slice lv ls.length lk) ls w6 := ⟨⟨rfl, .inl ⟨rfl, rfl⟩⟩, S6.ol, rfl, fun r hr j hj e => by cases e⟩
      have A6 := set5_at (v0 := .int .i64 3) (v1 := .slice none 0 0) (v2 := .slice lv ls.length lk) (v3 := .int .i64 st) (v4 := .int .i64 0) X6
      obtain ⟨r0, r1, r2, r3, r4⟩ := cells5 A6
      exact ⟨.agg #[.int .i64 3, .slice none 0 0, .slice lv ls.length lk, .int .i64 st, .int .i64 0], by simp [results, Tryz.results139, go_sem, r0, r1, r2, r3, r4], _, _, ls, rfl, V6.only (set5_only _ _ _ _ _ _ _) X6, Only.below S6.bl (by omega) (set5_only _ _ _ _ _ _ _)⟩
end Go.Proofs.YtnihhbfgbilimaaGreatDoor
