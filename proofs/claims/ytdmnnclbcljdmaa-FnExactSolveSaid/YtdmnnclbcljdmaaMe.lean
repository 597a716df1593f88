/-
  THE SOLVER'S FACE: what is deferred; impl.Solve, impl.SolveCount.
-/
import Derived.Test.YtdmnnclbcljdmaaMd
import Derived.Recover
import Derived.Laws.CopyOwn
import Derived.Laws.CopyOwn
import Derived.Laws.CopyOwn
import Derived.Laws.EntriesVeiled
namespace Go.Proofs.Ytdmnnclbcljdmaa
open Go.RowKit
set_option linter.unusedVariables false

set_option maxRecDepth 100000 in
set_option maxHeartbeats 1000000 in
/-- Solve$1, entered by a frame that panics. -/
theorem catch_p {w w0 : World} {b ob : Nat} {V bud st : Int} {ms ls : List LCl} {D tr : List Int} {vc vl vd : Value} (W : World) (h : Sol w w0 b V bud st ms ls D tr vc vl vd W) (hx : BoxO W ob) :
    CallsD Try.prog 31 #[.pointer (some ⟨b, 0, none⟩), .pointer (some ⟨ob, 0, none⟩)] (.panicking thrown) W fun e u' w' => e = .returned (.tuple #[]) ∧ settle u' = .returning ∧ ∃ w1, Below W.heap.size W w1 ∧ w' = set5 w1 ob (.int .i64 3) (.slice none 0 0) vl (.int .i64 st) (.int .i64 0) := by
  have C := Lib.hid (told_any 3 W h)
  obtain ⟨lv, lk, rfl⟩ := h.ol.v
  have HX := Lib.hid (fun w1 hb => hx.below (w' := w1) hb)
  clear h hx
  refine callsD_of_wpS Try.func31 rfl fun c₀ cs hu => ?_
  apply wpS_seq
  apply wpS_region
  simp [wpOpsS, go_sem, recoverD, hu, Try.ntmps31, Exit.thenS, thrown]
  refine wpS_cond (t := true) (by simp [Act.eval, Array.replicate]) ?_
  simp only [if_true]
  refine wpS_of_wp ?_
  go_wp2_with fail
  refine C.out.mono ?_
  rintro e w1 ⟨rfl, b1⟩
  obtain ⟨bl6, c0, c1, c2, c3, c4, f0, f1, f2, f3, f4⟩ := (HX.out w1 b1).facts
  have B1 := Lib.hid b1
  clear b1
  go_wp2
  exact ⟨rfl, _, rfl, .tuple #[], by simp [results, Try.results31, go_sem], rfl, by simp [settle], w1, B1.out, rfl⟩

set_option maxRecDepth 100000 in
set_option maxHeartbeats 1000000 in
/-- Solve$1, entered by a frame that returns. -/
theorem catch_i (p q : Value) (W : World) :
    CallsD Try.prog 31 #[p, q] .returning W fun e u' w' => e = .returned (.tuple #[]) ∧ settle u' = .returning ∧ w' = W := by
  refine callsD_of_wpS Try.func31 rfl fun c₀ cs hu => ?_
  apply wpS_seq
  apply wpS_region
  simp [wpOpsS, go_sem, recoverD, hu, Try.ntmps31, Exit.thenS]
  refine wpS_cond (t := false) (by simp [Act.eval, Array.replicate]) ?_
  simp only [Bool.false_eq_true, if_false]
  refine wpS_of_wp (wp_skip ?_)
  cases c₀
  simp_all [bodyPostS, results, Try.results31, settle]

/-- May it be solved? -/
def SolOk (vars : Int) (css : List (List Int)) (bud : Int) : Prop := CnfR vars css ∧ 0 ≤ bud ∧ bud ≤ 300
/-- What Solve answers, and its code. -/
noncomputable def solA (vars : Int) (css : List (List Int)) (bud : Int) : Res × Int := if B (SolOk vars css bud) = true then (solF css vars.toNat bud.toNat 0 [] [], 0) else ((0, [], [], 0), 1)
theorem solA_yes {vars : Int} {css : List (List Int)} {bud : Int} (h : SolOk vars css bud) : solA vars css bud = (solF css vars.toNat bud.toNat 0 [] [], 0) := by unfold solA; rw [B_yes h]; rfl
theorem solA_no {vars : Int} {css : List (List Int)} {bud : Int} (h : ¬ SolOk vars css bud) : solA vars css bud = ((0, [], [], 0), 1) := by unfold solA; rw [B_no h]; rfl
/-- What an answer is. -/
def SPost (w : World) (A : Res × Int) (e : Ending) (w' : World) : Prop := ∃ (vt vl : Value) (ls : List LCl), e = .returned (.agg #[.int .i64 A.1.1, vt, vl, .int .i64 A.1.2.2.2, .int .i64 A.2]) ∧ SoV w.heap.size A.1 vt vl ls w' ∧ Below w.heap.size w w'
theorem vL_nil : vL [] = List.replicate 97 (.int .i64 0) := by
  apply List.ext_getElem?
  intro k
  by_cases hk : k < 97
  · rw [vL_at [] k hk, val_no (by simp) (by simp), List.getElem?_replicate, if_pos hk]
  · rw [List.getElem?_eq_none (by rw [vL_len]; omega), List.getElem?_eq_none (by rw [List.length_replicate]; omega)]

theorem leaves_eq {P : Program} {fn : Func} {R : Ending → World → Prop} {t1 t2 : Array Value} (h : results fn t1 = results fn t2) : ∀ ds : List Deferred, Leaves P fn t1 R ds = Leaves P fn t2 R ds
  | [] => by funext u w; cases u <;> simp [Leaves, h]
  | d :: ds => by
    have ih := leaves_eq (P := P) (R := R) h ds
    funext u w
    simp only [Leaves, ih]
theorem pan8 {R : Ending → World → Prop} {ch : List PanicEntry} {a : Act} {w : World} (d : Nat) (v : Value) (hd : d ≠ 4) (h : bodyPostD Try.prog Try.f8 R (.panic ch) (a.put (some d) v) w) : bodyPostD Try.prog Try.f8 R (.panic ch) a w := by
  have e : results Try.f8 (a.put (some d) v).tmps = results Try.f8 a.tmps := by
    have e4 : (a.tmps.setIfInBounds d v)[4]?.getD undef = a.tmps[4]?.getD undef := by rw [Array.getElem?_setIfInBounds_ne hd]
    simp [results, Try.results8, Act.put, e4]
  have h' : Leaves Try.prog Try.f8 (a.put (some d) v).tmps R a.defers (.panicking ch) w := h
  rw [leaves_eq e] at h'
  exact h'
theorem Only.setRow {g : Nat} (X : World) (cells : Array Value) : Only g X (X.setRow g cells) := ⟨rfl, rfl, rfl, by simp, fun k _ hk => setRow_other _ _ _ _ hk⟩
/-- The solver, just laid. -/
theorem solNew {w X : World} {g V bd : Nat} {cs : List LCl} {old : Array Value} {vc : Value} (hg : X.heap[g]? = some (.cells old 63)) (hrc : X.ownsRow w.heap.size 121 1 vc (hdC cs).length (hdC cs)) (hb : Below w.heap.size w X) (hwg : w.heap.size ≤ g) :
    Sol w (X.setRow g (SF (V : Int) (bd : Int) 0 vc (.slice none 0 0) (.slice none 0 0) ++ List.replicate 97 (Value.int .i64 0)).toArray) g V bd 0 cs [] [] [] vc (.slice none 0 0) (.slice none 0 0) (X.setRow g (SF (V : Int) (bd : Int) 0 vc (.slice none 0 0) (.slice none 0 0) ++ List.replicate 97 (Value.int .i64 0)).toArray) :=
  ⟨⟨rfl, by rw [vL_nil]; exact setRow_heap _ _ _ _ _ _ hg⟩, own_only hrc (Only.setRow _ _) hg (by decide), OwC.nil _ _, ⟨rfl, .inl ⟨rfl, rfl⟩⟩, (fun r hr => by cases hr), below_setRow hb hwg _, hwg, K30.refl _⟩

set_option maxRecDepth 100000 in
set_option maxHeartbeats 8000000 in
/-- impl.Solve. -/
theorem iso_any (vars bud : Int) (sl : Option Addr) (cap : Nat) (cs : List LCl) (w : World) (hn : cs.length ≤ maxLen) (hz : Cls w sl cs) (hwf : ∀ l ∈ bareC cs, ∀ z ∈ l, wfI z) :
    Calls Try.prog 8 #[CV vars sl cs.length cap, .int .i64 bud] w (SPost w (solA vars (bareC cs) bud)) := by
  have b0 := bA0 w (.cells #[.int .i64 vars, .slice sl cs.length cap] 25)
  have b1 := bA b0 (.cells #[.int .i64 0, .slice none 0 0, .slice none 0 0, .int .i64 0, .int .i64 0] 30)
  have hs1 : ((w.alloc (.cells #[.int .i64 vars, .slice sl cs.length cap] 25)).alloc (.cells #[.int .i64 0, .slice none 0 0, .slice none 0 0, .int .i64 0, .int .i64 0] 30)).heap.size = w.heap.size + 2 := by simp
  have X1 : Hid (BoxO ((w.alloc (.cells #[.int .i64 vars, .slice sl cs.length cap] 25)).alloc (.cells #[.int .i64 0, .slice none 0 0, .slice none 0 0, .int .i64 0, .int .i64 0] 30)) (w.heap.size + 1)) := by
    have := new_at (w.alloc (.cells #[.int .i64 vars, .slice sl cs.length cap] 25)) (.cells #[.int .i64 0, .slice none 0 0, .slice none 0 0, .int .i64 0, .int .i64 0] 30)
    rw [show (w.alloc (.cells #[.int .i64 vars, .slice sl cs.length cap] 25)).heap.size = w.heap.size + 1 by simp] at this
    exact this
  have CA := (CnfAt.new w vars sl cs.length cap).below (bA0 _ (.cells #[.int .i64 0, .slice none 0 0, .slice none 0 0, .int .i64 0, .int .i64 0] 30))
  obtain ⟨q0, q1⟩ := CA.cells
  have ql := CA.lt
  have CA' := Lib.hid CA
  have CA' := Lib.hid CA
  have CA' := Lib.hid CA
  have CR := Lib.hid (icr_any vars sl cap cs ((w.alloc (.cells #[.int .i64 vars, .slice sl cs.length cap] 25)).alloc (.cells #[.int .i64 0, .slice none 0 0, .slice none 0 0, .int .i64 0, .int .i64 0] 30)) hn (hz.below b1))
  have hmf : ∀ (fn : Fn) (first cap : Array Value) (w : World), (Instr.makeFunc fn first cap).run Try.prog w = .ok (.func fn first cap) w := fun _ _ _ _ => rfl
  have B1 := Lib.hid b1
  by_cases hok : SolOk vars (bareC cs) bud
  case neg =>
    rw [solA_no hok]
    clear CA hz hwf hn b0 b1
    by_cases hcr : CnfR vars (bareC cs)
    · rw [B_yes hcr] at CR
      have hbb : bud < 0 ∨ (¬ bud < 0 ∧ 300 < bud) := by
        rcases Classical.em (bud < 0) with h | h
        · exact .inl h
        · exact .inr ⟨h, by rcases Classical.em (300 < bud) with g | g; exact g; exact absurd ⟨hcr, by omega, by omega⟩ hok⟩
      clear hcr hok
      generalize cs.length = cn at *
      rcases hbb with hbb | ⟨hbb, hbc⟩
      · go_enter_defers Try.func8, Try.ntmps8
        go_wp2_with (go_at_call 29; refine CR.out.mono ?_; rintro e w1 ⟨rfl, bb1⟩; have X := X1.out.below bb1; obtain ⟨bl6, c0, c1, c2, c3, c4, f0, f1, f2, f3, f4⟩ := X.facts; have XX := Lib.hid X; have BB := Lib.hid (bT B1.out bb1); clear X bb1)
        have X6 := XX.out
        have V6 : SoV w.heap.size (0, [], [], 0) (.slice none 0 0) (.slice none 0 0) [] w1 := ⟨⟨rfl, .inl ⟨rfl, rfl⟩⟩, OwC.nil _ _, rfl, fun r hr j hj e => by cases e⟩
        have A6 := set5_at (v0 := .int .i64 0) (v1 := .slice none 0 0) (v2 := .slice none 0 0) (v3 := .int .i64 0) (v4 := .int .i64 1) X6
        obtain ⟨r0, r1, r2, r3, r4⟩ := cells5 A6
        exact ⟨.agg #[.int .i64 0, .slice none 0 0, .slice none 0 0, .int .i64 0, .int .i64 1], by unfold set5 at r0 r1 r2 r3 r4; simp [results, Try.results8, go_sem, r0, r1, r2, r3, r4], _, _, [], rfl, V6.only (set5_only _ _ _ _ _ _ _) X6, Only.below BB.out (by omega) (set5_only _ _ _ _ _ _ _)⟩
      · go_enter_defers Try.func8, Try.ntmps8
        go_wp2_with (go_at_call 29; refine CR.out.mono ?_; rintro e w1 ⟨rfl, bb1⟩; have X := X1.out.below bb1; obtain ⟨bl6, c0, c1, c2, c3, c4, f0, f1, f2, f3, f4⟩ := X.facts; have XX := Lib.hid X; have BB := Lib.hid (bT B1.out bb1); clear X bb1)
        have X6 := XX.out
        have V6 : SoV w.heap.size (0, [], [], 0) (.slice none 0 0) (.slice none 0 0) [] w1 := ⟨⟨rfl, .inl ⟨rfl, rfl⟩⟩, OwC.nil _ _, rfl, fun r hr j hj e => by cases e⟩
        have A6 := set5_at (v0 := .int .i64 0) (v1 := .slice none 0 0) (v2 := .slice none 0 0) (v3 := .int .i64 0) (v4 := .int .i64 1) X6
        obtain ⟨r0, r1, r2, r3, r4⟩ := cells5 A6
        exact ⟨.agg #[.int .i64 0, .slice none 0 0, .slice none 0 0, .int .i64 0, .int .i64 1], by unfold set5 at r0 r1 r2 r3 r4; simp [results, Try.results8, go_sem, r0, r1, r2, r3, r4], _, _, [], rfl, V6.only (set5_only _ _ _ _ _ _ _) X6, Only.below BB.out (by omega) (set5_only _ _ _ _ _ _ _)⟩
    · rw [B_no hcr] at CR
      clear hcr hok
      generalize cs.length = cn at *
      go_enter_defers Try.func8, Try.ntmps8
      go_wp2_with (go_at_call 29; refine CR.out.mono ?_; rintro e w1 ⟨rfl, bb1⟩; have X := X1.out.below bb1; obtain ⟨bl6, c0, c1, c2, c3, c4, f0, f1, f2, f3, f4⟩ := X.facts; have XX := Lib.hid X; have BB := Lib.hid (bT B1.out bb1); clear X bb1)
      have X6 := XX.out
      have V6 : SoV w.heap.size (0, [], [], 0) (.slice none 0 0) (.slice none 0 0) [] w1 := ⟨⟨rfl, .inl ⟨rfl, rfl⟩⟩, OwC.nil _ _, rfl, fun r hr j hj e => by cases e⟩
      have A6 := set5_at (v0 := .int .i64 0) (v1 := .slice none 0 0) (v2 := .slice none 0 0) (v3 := .int .i64 0) (v4 := .int .i64 1) X6
      obtain ⟨r0, r1, r2, r3, r4⟩ := cells5 A6
      exact ⟨.agg #[.int .i64 0, .slice none 0 0, .slice none 0 0, .int .i64 0, .int .i64 1], by unfold set5 at r0 r1 r2 r3 r4; simp [results, Try.results8, go_sem, r0, r1, r2, r3, r4], _, _, [], rfl, V6.only (set5_only _ _ _ _ _ _ _) X6, Only.below BB.out (by omega) (set5_only _ _ _ _ _ _ _)⟩
  rw [solA_yes hok]
  obtain ⟨hcr, hb0, hb3⟩ := hok
  rw [B_yes hcr] at CR
  obtain ⟨V, rfl⟩ : ∃ V : Nat, vars = (V : Int) := ⟨vars.toNat, by have := hcr.1.1; omega⟩
  obtain ⟨bd, rfl⟩ : ∃ n : Nat, bud = (n : Int) := ⟨bud.toNat, by omega⟩
  have hV : V ≤ 96 := by have := hcr.1.2; omega
  have hcl : cs.length ≤ 4000 := by have := hcr.2.1; rwa [bareC_length] at this
  simp only [Int.toNat_natCast]
  have HI : Hid (RunI w cs V bd (solF (bareC cs) V bd 0 [] []) 0 cs [] []) := ⟨by simp [bareC], fun r hr => .inl (hz.each r hr), ⟨cnfR_lits hcr hwf, (fun l hl => by cases hl), SpTo.zero _ _⟩, Nat.le_refl _, Nat.zero_le _, rfl⟩
  have hb0' : ¬ ((bd : Int) < 0) := by omega
  have hb3' : ¬ (300 < (bd : Int)) := by omega
  have hb3n : bd ≤ 300 := by omega
  have CW : Hid (∀ W, Below w.heap.size w W → Calls Try.prog 30 #[CV (V : Int) sl cs.length cap, .slice none 0 0] W fun e w' => ∃ v, e = .returned v ∧ w'.ownsRow W.heap.size 121 1 v (hdC cs).length (hdC cs) ∧ Below W.heap.size W w') := fun W hW => by
    have := cw_any (V : Int) sl cap cs none 0 [] W (by omega) (by simp) (hz.below hW) ⟨.inl rfl, fun r hr => by cases hr⟩
    simp only [List.append_nil, List.length_nil] at this
    rw [hdC_len]
    exact this
  have RU : Hid (∀ W b vc, Sol w W b V bd 0 cs [] [] [] vc (.slice none 0 0) (.slice none 0 0) W → Calls Try.prog 33 #[.pointer (some ⟨b, 0, none⟩)] W (RPost w W b V bd (solF (bareC cs) V bd 0 [] []))) := fun W b vc h => run_any _ W h hV hb3n hcl HI.out
  clear hcr hwf hn hz b0 b1 CA
  generalize hR : solF (bareC cs) V bd 0 [] [] = R at *
  clear hR
  generalize hcn : (hdC cs).length = hn at *
  generalize hcm : cs.length = cn at *
  go_enter_defers Try.func8, Try.ntmps8
  go_wp2_with (go_at_call 29; refine CR.out.mono ?_; rintro e w1 ⟨rfl, bb1⟩)
--@R3
  have D1' : Below w.heap.size w w1 := bT B1.out bb1
  have D1 := Lib.hid D1'.drew
  have F1 : Hid (Below w1.heap.size w1 w1.drew) := (Below.refl _ _).drew
  have X1w := Lib.hid (X1.out.below bb1)
  have KT : Hid (∀ W, Below w1.heap.size w1 W → w.heap.size < W.heap.size ∧ W.cell? ⟨w.heap.size, 0, none⟩ = some (.int .i64 (V : Int)) ∧ W.cell? ⟨w.heap.size, 1, none⟩ = some (.slice sl cn cap)) := fun W hW => by
    have h := (CA'.out.below bb1).below hW
    exact ⟨h.lt, h.cells⟩
  clear D1' bb1 CR q0 q1 ql
  refine wp_region_held_drew (S := fun W => w.heap.size < W.heap.size ∧ W.cell? ⟨w.heap.size, 0, none⟩ = some (.int .i64 (V : Int)) ∧ W.cell? ⟨w.heap.size, 1, none⟩ = some (.slice sl cn cap)) (by kernel_rfl) ?_ (fun hHeld => ?_)
  · exact KT.out _ F1.out
  refine wpAnyH_take (i := 0) (oi := _) (v := ?_) rfl (by kernel_rfl) (by kernel_rfl) (by kernel_rfl) (fun _ _ _ h => pan8 18 _ (by decide) h) (Or.inl ⟨by rfl, ?_⟩) (by assumption) ?_
  rotate_left
  · first | (intro w hSw; (try dsimp only at hSw); go_simp; done) | (intro w hSw; (try dsimp only at hSw); go_simp; with_reducible rfl)
  try simp only [Act.put, List.setIfInBounds_toArray, List.set_cons_zero, List.set_cons_succ, List.getElem_toArray, List.getElem_cons_zero]
  refine wpAnyH_take (i := 1) (oi := _) (v := ?_) rfl (by kernel_rfl) (by kernel_rfl) (by kernel_rfl) (fun _ _ _ h => pan8 19 _ (by decide) h) (Or.inl ⟨by rfl, ?_⟩) (by assumption) ?_
  rotate_left
  · first | (intro w hSw; (try dsimp only at hSw); go_simp; done) | (intro w hSw; (try dsimp only at hSw); go_simp; with_reducible rfl)
  try simp only [Act.put, List.setIfInBounds_toArray, List.set_cons_zero, List.set_cons_succ, List.getElem_toArray, List.getElem_cons_succ, List.getElem_cons_zero]
  refine wpAnyH_take (i := 2) (oi := _) (v := ?_) rfl (by kernel_rfl) (by kernel_rfl) (by kernel_rfl) (fun _ _ _ h => pan8 20 _ (by decide) h) (Or.inl ⟨by rfl, ?_⟩) (by assumption) ?_
  rotate_left
  · first | (intro w hSw; (try dsimp only at hSw); go_simp; done) | (intro w hSw; (try dsimp only at hSw); go_simp; with_reducible rfl)
  try simp only [Act.put, List.setIfInBounds_toArray, List.set_cons_zero, List.set_cons_succ, List.getElem_toArray, List.getElem_cons_succ, List.getElem_cons_zero]
  refine wpAnyH_take (i := 3) (oi := _) (v := ?_) rfl (by kernel_rfl) (by kernel_rfl) (by kernel_rfl) (fun _ _ _ h => pan8 21 _ (by decide) h) (Or.inl ⟨by rfl, ?_⟩) (by assumption) ?_
  rotate_left
  · first | (intro w hSw; (try dsimp only at hSw); go_simp; done) | (intro w hSw; (try dsimp only at hSw); go_simp; with_reducible rfl)
  try simp only [Act.put, List.setIfInBounds_toArray, List.set_cons_zero, List.set_cons_succ, List.getElem_toArray, List.getElem_cons_succ, List.getElem_cons_zero]
  refine wpAnyH_ready (rs := [4, 6]) (by kernel_rfl) (by simp) ?_
  refine AllReadyH.cons rfl (fun K hK => ?_) (AllReadyH.cons rfl (fun K hK => ?_) AllReadyH.nil)
  · go_simp
    go_wp2_with (go_at_call 30; refine (CW.out _ D1.out).mono ?_; rintro e w2 ⟨v2, rfl, o2, b2⟩)
    obtain ⟨cv, ck, rfl⟩ := own_v o2
    have D2 := Lib.hid (bT D1.out b2)
    have O2 := Lib.hid (own_mono o2 D1.out.size)
    have F2 := Lib.hid (bT F1.out b2)
    have HCE : Hid ((((Try.zeroCells63.setIfInBounds 0 (.int .i64 (V : Int))).setIfInBounds 1 (.int .i64 (bd : Int))).setIfInBounds 3 (.slice cv hn ck)) = (SF (V : Int) (bd : Int) 0 (.slice cv hn ck) (.slice none 0 0) (.slice none 0 0) ++ List.replicate 97 (Value.int .i64 0)).toArray) := by
      show _ = _
      kernel_rfl
    clear o2 b2
    refine hK.out _ _ ?_ (fun hHeld => ?_)
    · exact KT.out _ F2.out
    clear hK K
    refine wpAnyH_take (i := 5) (oi := _) (v := ?_) rfl (by kernel_rfl) (by kernel_rfl) (by kernel_rfl) (fun _ _ _ h => pan8 23 _ (by decide) h) (Or.inl ⟨by rfl, ?_⟩) (by assumption) ?_
    rotate_left
    · first | (intro w hSw; (try dsimp only at hSw); go_simp; done) | (intro w hSw; (try dsimp only at hSw); go_simp; with_reducible rfl)
    try simp only [Act.put, List.setIfInBounds_toArray, List.set_cons_zero, List.set_cons_succ, List.getElem_toArray, List.getElem_cons_succ, List.getElem_cons_zero]
    refine wpAnyH_ready (rs := [6]) (by kernel_rfl) (by simp) ?_
    refine AllReadyH.cons rfl (fun K hK => ?_) AllReadyH.nil
    go_simp
    have AD := Lib.hid (bA D2.out (.cells Try.zeroCells63 63))
    have AF := Lib.hid (bA F2.out (.cells Try.zeroCells63 63))
    have AR : Hid ((w2.alloc (.cells Try.zeroCells63 63)).heap[w2.heap.size]? = some (.cells Try.zeroCells63 63)) := new_at _ _
    have hg : w.heap.size ≤ w2.heap.size := D2.out.size
    have hg1 : w1.heap.size ≤ w2.heap.size := F2.out.size
    refine hK.out _ _ ?_ (fun hHeld => ?_)
    · exact KT.out _ AF.out
    clear hK K
    have O2a := Lib.hid (own_below O2.out (bA0 w2 (.cells Try.zeroCells63 63)))
    refine wpAnyH_ready (rs := [7]) (by kernel_rfl) (by simp) ?_
    refine AllReadyH.cons rfl (fun K hK => ?_) AllReadyH.nil
    refine wp_store_row 63 _ _ rfl (w2.heap.size) (SF (V : Int) (bd : Int) 0 (.slice cv hn ck) (.slice none 0 0) (.slice none 0 0) ++ List.replicate 97 (Value.int .i64 0)).toArray (by simp [Act.eval]) (by exact congrArg Value.agg HCE.out) 63 _ AR.out (by kernel_rfl) (by kernel_rfl) (by kernel_rfl) ?_
    have F3 : Hid (Below w1.heap.size w1 ((w2.alloc (.cells Try.zeroCells63 63)).setRow (w2.heap.size) (SF (V : Int) (bd : Int) 0 (.slice cv hn ck) (.slice none 0 0) (.slice none 0 0) ++ List.replicate 97 (Value.int .i64 0)).toArray)) := below_setRow AF.out hg1 _
    have S3 := Lib.hid (solNew (V := V) (bd := bd) (cs := cs) AR.out (by rw [hcn]; exact O2a.out) AD.out hg)
    have X3 : Hid (BoxO ((w2.alloc (.cells Try.zeroCells63 63)).setRow (w2.heap.size) (SF (V : Int) (bd : Int) 0 (.slice cv hn ck) (.slice none 0 0) (.slice none 0 0) ++ List.replicate 97 (Value.int .i64 0)).toArray) (w.heap.size + 1)) := (setRow_other _ _ _ _ (by have := X1w.out.facts.1; omega)).trans (X1w.out.below AF.out)
    refine hK.out _ _ ?_ (fun hHeld => ?_)
    · exact KT.out _ F3.out
    clear hK K
    try simp only [Act.put, List.getElem_toArray, List.getElem_cons_succ, List.getElem_cons_zero]
    refine wpAnyH_done (by kernel_rfl) ?_ _
    generalize (w2.alloc (.cells Try.zeroCells63 63)).setRow (w2.heap.size) (SF (V : Int) (bd : Int) 0 (.slice cv hn ck) (.slice none 0 0) (.slice none 0 0) ++ List.replicate 97 (Value.int .i64 0)).toArray = W3 at *
    have hg3 := X1w.out.facts.1
    clear AD AF AR HCE D1 F1 F3 KT
    go_wp2_with fail
    refine (RU.out _ _ _ S3.out).mono ?_
    rintro e w4 (⟨vt, vl, ls, rfl, hv, hb4, hk⟩ | ⟨st, ms, ls, D, tr, vc', vl, vd, rfl, hR, hS⟩)
    · have X4 : BoxO w4 (w.heap.size + 1) := hk _ _ X3.out
      obtain ⟨ts, tk, rfl⟩ := own_v hv.tr
      obtain ⟨lv, lk, rfl⟩ := hv.ol.v
      have V4 := Lib.hid (hv.only (set5_only w4 (w.heap.size + 1) (.int .i64 R.1) (.slice ts R.2.1.length tk) (.slice lv ls.length lk) (.int .i64 R.2.2.2) (.int .i64 0)) X4)
      have B4 := Lib.hid (Only.below hb4 (by omega) (set5_only w4 (w.heap.size + 1) (.int .i64 R.1) (.slice ts R.2.1.length tk) (.slice lv ls.length lk) (.int .i64 R.2.2.2) (.int .i64 0)))
      have A4 := set5_at (v0 := .int .i64 R.1) (v1 := .slice ts R.2.1.length tk) (v2 := .slice lv ls.length lk) (v3 := .int .i64 R.2.2.2) (v4 := .int .i64 0) X4
      obtain ⟨r0, r1, r2, r3, r4⟩ := cells5 A4
      obtain ⟨bl6, c0, c1, c2, c3, c4, f0, f1, f2, f3, f4⟩ := X4.facts
      unfold set5 at V4 B4 r0 r1 r2 r3 r4
      clear hv hb4 hk X4 A4 RU S3 X3
      go_wp2
      refine leaves_cons (f := 31) (args := #[.pointer (some ⟨_, 0, none⟩), .pointer (some ⟨w.heap.size + 1, 0, none⟩)]) (by simp) (by simp [go_sem]; rfl) ?_
      refine (catch_i _ _ _).mono ?_
      rintro e u' w5 ⟨rfl, hu, rfl⟩
      dsimp only
      rw [hu]
      exact ⟨.agg #[.int .i64 R.1, .slice ts R.2.1.length tk, .slice lv ls.length lk, .int .i64 R.2.2.2, .int .i64 0], by simp [results, Try.results8, go_sem, r0, r1, r2, r3, r4], _, _, ls, rfl, V4.out, B4.out⟩
    · have X4 : BoxO w4 (w.heap.size + 1) := hS.kp _ _ X3.out
      obtain ⟨lv, lk, rfl⟩ := hS.ol.v
      have CP := Lib.hid (catch_p w4 hS X4)
      dsimp only
      refine leaves_cons (f := 31) (args := #[.pointer (some ⟨_, 0, none⟩), .pointer (some ⟨w.heap.size + 1, 0, none⟩)]) (by simp) (by simp [go_sem]; rfl) ?_
      refine CP.out.mono ?_
      rintro e u' w5 ⟨rfl, hu, w6, b6, rfl⟩
      dsimp only
      rw [hu]
      subst hR
      have X6 := X4.below b6
      have S6 := hS.below b6
      have V6 : SoV w.heap.size (3, [], bareC ls, st) (.slice none 0 0) (.slice lv ls.length lk) ls w6 := ⟨⟨rfl, .inl ⟨rfl, rfl⟩⟩, S6.ol, rfl, fun r hr j hj e => by cases e⟩
      have A6 := set5_at (v0 := .int .i64 3) (v1 := .slice none 0 0) (v2 := .slice lv ls.length lk) (v3 := .int .i64 st) (v4 := .int .i64 0) X6
      obtain ⟨r0, r1, r2, r3, r4⟩ := cells5 A6
      exact ⟨.agg #[.int .i64 3, .slice none 0 0, .slice lv ls.length lk, .int .i64 st, .int .i64 0], by simp [results, Try.results8, go_sem, r0, r1, r2, r3, r4], _, _, ls, rfl, V6.only (set5_only _ _ _ _ _ _ _) X6, Only.below S6.bl (by omega) (set5_only _ _ _ _ _ _ _)⟩
  · go_simp
    have AD := Lib.hid (bA D1.out (.cells Try.zeroCells63 63))
    have AF := Lib.hid (bA F1.out (.cells Try.zeroCells63 63))
    have AR : Hid ((w1.drew.alloc (.cells Try.zeroCells63 63)).heap[w1.heap.size]? = some (.cells Try.zeroCells63 63)) := new_at _ _
    have hg : w.heap.size ≤ w1.heap.size := D1.out.size
    have hg1 : w1.heap.size ≤ w1.heap.size := F1.out.size
    refine hK.out _ _ ?_ (fun hHeld => ?_)
    · exact KT.out _ AF.out
    clear hK K
    refine wpAnyH_ready (rs := [4]) (by kernel_rfl) (by simp) ?_
    refine AllReadyH.cons rfl (fun K hK => ?_) AllReadyH.nil
    go_simp
    go_wp2_with (go_at_call 30; refine (CW.out _ AD.out).mono ?_; rintro e w2 ⟨v2, rfl, o2, b2⟩)
    obtain ⟨cv, ck, rfl⟩ := own_v o2
    have D2 := Lib.hid (bT AD.out b2)
    have O2 := Lib.hid (own_mono o2 AD.out.size)
    have F2 := Lib.hid (bT AF.out b2)
    have HCE : Hid ((((Try.zeroCells63.setIfInBounds 0 (.int .i64 (V : Int))).setIfInBounds 1 (.int .i64 (bd : Int))).setIfInBounds 3 (.slice cv hn ck)) = (SF (V : Int) (bd : Int) 0 (.slice cv hn ck) (.slice none 0 0) (.slice none 0 0) ++ List.replicate 97 (Value.int .i64 0)).toArray) := by
      show _ = _
      kernel_rfl
    have R2 : Hid (w2.heap[w1.heap.size]? = some (.cells Try.zeroCells63 63)) := ((b2.block _ (Array.getElem?_eq_some_iff.1 AR.out).1).trans AR.out)
    clear o2 b2
    refine hK.out _ _ ?_ (fun hHeld => ?_)
    · exact KT.out _ F2.out
    clear hK K
    refine wpAnyH_take (i := 5) (oi := _) (v := ?_) rfl (by kernel_rfl) (by kernel_rfl) (by kernel_rfl) (fun _ _ _ h => pan8 23 _ (by decide) h) (Or.inl ⟨by rfl, ?_⟩) (by assumption) ?_
    rotate_left
    · first | (intro w hSw; (try dsimp only at hSw); go_simp; done) | (intro w hSw; (try dsimp only at hSw); go_simp; with_reducible rfl)
    try simp only [Act.put, List.setIfInBounds_toArray, List.set_cons_zero, List.set_cons_succ, List.getElem_toArray, List.getElem_cons_succ, List.getElem_cons_zero]
    refine wpAnyH_ready (rs := [7]) (by kernel_rfl) (by simp) ?_
    refine AllReadyH.cons rfl (fun K hK => ?_) AllReadyH.nil
    refine wp_store_row 63 _ _ rfl (w1.heap.size) (SF (V : Int) (bd : Int) 0 (.slice cv hn ck) (.slice none 0 0) (.slice none 0 0) ++ List.replicate 97 (Value.int .i64 0)).toArray (by simp [Act.eval]) (by exact congrArg Value.agg HCE.out) 63 _ R2.out (by kernel_rfl) (by kernel_rfl) (by kernel_rfl) ?_
    have F3 : Hid (Below w1.heap.size w1 ((w2).setRow (w1.heap.size) (SF (V : Int) (bd : Int) 0 (.slice cv hn ck) (.slice none 0 0) (.slice none 0 0) ++ List.replicate 97 (Value.int .i64 0)).toArray)) := below_setRow F2.out hg1 _
    have S3 := Lib.hid (solNew (V := V) (bd := bd) (cs := cs) R2.out (by rw [hcn]; exact O2.out) D2.out hg)
    have X3 : Hid (BoxO ((w2).setRow (w1.heap.size) (SF (V : Int) (bd : Int) 0 (.slice cv hn ck) (.slice none 0 0) (.slice none 0 0) ++ List.replicate 97 (Value.int .i64 0)).toArray) (w.heap.size + 1)) := (setRow_other _ _ _ _ (by have := X1w.out.facts.1; omega)).trans (X1w.out.below F2.out)
    refine hK.out _ _ ?_ (fun hHeld => ?_)
    · exact KT.out _ F3.out
    clear hK K
    try simp only [Act.put, List.getElem_toArray, List.getElem_cons_succ, List.getElem_cons_zero]
    refine wpAnyH_done (by kernel_rfl) ?_ _
    generalize (w2).setRow (w1.heap.size) (SF (V : Int) (bd : Int) 0 (.slice cv hn ck) (.slice none 0 0) (.slice none 0 0) ++ List.replicate 97 (Value.int .i64 0)).toArray = W3 at *
    have hg3 := X1w.out.facts.1
    clear AD AF AR HCE D1 F1 F3 KT
    go_wp2_with fail
    refine (RU.out _ _ _ S3.out).mono ?_
    rintro e w4 (⟨vt, vl, ls, rfl, hv, hb4, hk⟩ | ⟨st, ms, ls, D, tr, vc', vl, vd, rfl, hR, hS⟩)
    · have X4 : BoxO w4 (w.heap.size + 1) := hk _ _ X3.out
      obtain ⟨ts, tk, rfl⟩ := own_v hv.tr
      obtain ⟨lv, lk, rfl⟩ := hv.ol.v
      have V4 := Lib.hid (hv.only (set5_only w4 (w.heap.size + 1) (.int .i64 R.1) (.slice ts R.2.1.length tk) (.slice lv ls.length lk) (.int .i64 R.2.2.2) (.int .i64 0)) X4)
      have B4 := Lib.hid (Only.below hb4 (by omega) (set5_only w4 (w.heap.size + 1) (.int .i64 R.1) (.slice ts R.2.1.length tk) (.slice lv ls.length lk) (.int .i64 R.2.2.2) (.int .i64 0)))
      have A4 := set5_at (v0 := .int .i64 R.1) (v1 := .slice ts R.2.1.length tk) (v2 := .slice lv ls.length lk) (v3 := .int .i64 R.2.2.2) (v4 := .int .i64 0) X4
      obtain ⟨r0, r1, r2, r3, r4⟩ := cells5 A4
      obtain ⟨bl6, c0, c1, c2, c3, c4, f0, f1, f2, f3, f4⟩ := X4.facts
      unfold set5 at V4 B4 r0 r1 r2 r3 r4
      clear hv hb4 hk X4 A4 RU S3 X3
      go_wp2
      refine leaves_cons (f := 31) (args := #[.pointer (some ⟨_, 0, none⟩), .pointer (some ⟨w.heap.size + 1, 0, none⟩)]) (by simp) (by simp [go_sem]; rfl) ?_
      refine (catch_i _ _ _).mono ?_
      rintro e u' w5 ⟨rfl, hu, rfl⟩
      dsimp only
      rw [hu]
      exact ⟨.agg #[.int .i64 R.1, .slice ts R.2.1.length tk, .slice lv ls.length lk, .int .i64 R.2.2.2, .int .i64 0], by simp [results, Try.results8, go_sem, r0, r1, r2, r3, r4], _, _, ls, rfl, V4.out, B4.out⟩
    · have X4 : BoxO w4 (w.heap.size + 1) := hS.kp _ _ X3.out
      obtain ⟨lv, lk, rfl⟩ := hS.ol.v
      have CP := Lib.hid (catch_p w4 hS X4)
      dsimp only
      refine leaves_cons (f := 31) (args := #[.pointer (some ⟨_, 0, none⟩), .pointer (some ⟨w.heap.size + 1, 0, none⟩)]) (by simp) (by simp [go_sem]; rfl) ?_
      refine CP.out.mono ?_
      rintro e u' w5 ⟨rfl, hu, w6, b6, rfl⟩
      dsimp only
      rw [hu]
      subst hR
      have X6 := X4.below b6
      have S6 := hS.below b6
      have V6 : SoV w.heap.size (3, [], bareC ls, st) (.slice none 0 0) (.slice lv ls.length lk) ls w6 := ⟨⟨rfl, .inl ⟨rfl, rfl⟩⟩, S6.ol, rfl, fun r hr j hj e => by cases e⟩
      have A6 := set5_at (v0 := .int .i64 3) (v1 := .slice none 0 0) (v2 := .slice lv ls.length lk) (v3 := .int .i64 st) (v4 := .int .i64 0) X6
      obtain ⟨r0, r1, r2, r3, r4⟩ := cells5 A6
      exact ⟨.agg #[.int .i64 3, .slice none 0 0, .slice lv ls.length lk, .int .i64 st, .int .i64 0], by simp [results, Try.results8, go_sem, r0, r1, r2, r3, r4], _, _, ls, rfl, V6.only (set5_only _ _ _ _ _ _ _) X6, Only.below S6.bl (by omega) (set5_only _ _ _ _ _ _ _)⟩
end Go.Proofs.Ytdmnnclbcljdmaa
