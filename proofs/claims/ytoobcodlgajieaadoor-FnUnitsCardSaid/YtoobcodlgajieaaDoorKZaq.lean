/-
  LEMMAS, DRAWN: l08Lemmas.
  CLAUSES, LEMMAS AND A TRAIL, DRAWN: DrawUnitRun.
-/
import Derived.Test.YtoobcodlgajieaaDoorKXar
import Derived.Test.YtoobcodlgajieaaDoorKZai
import Derived.Test.YtoobcodlgajieaaDoorKZak
namespace Go.Proofs.YtoobcodlgajieaaDoor
open Go.RowKit
set_option linter.unusedVariables false
set_option linter.unusedSimpArgs false

/-- Lemmas that are being drawn, beside the source and the Cnf's box. -/
structure LS (w : World) (B b : Nat) (vars : Int) (vs : Option Addr) (n vk : Nat) (v : Value) (ls : List LCl) (W : World) : Prop where
  src : SrcB B W b
  only : Only b w W
  box : W.heap[w.heap.size]? = some (.cells #[.int .i64 vars, .slice vs n vk] 25)
  oc : OwC W (w.heap.size + 1) v ls
  hB : b < B ∧ B ≤ w.heap.size
/-- What is drawn. -/
def LmP (B b : Nat) (w : World) (e : Ending) (w' : World) : Prop := ∃ (v : Value) (ls : List LCl) (s : Option Addr) (k : Nat) (ms : List LCl), e = .returned (.slice s ms.length k) ∧ OwC w' (w.heap.size + 1) v ls ∧ (∀ W, OwC W (w.heap.size + 1) v ls → Cls W s ms) ∧ LmOk' ms ∧ SrcB B w' b ∧ Only b w w'
section
variable {w : World} {B b : Nat} {vars : Int} {vs : Option Addr} {n vk : Nat} {v : Value} {ls : List LCl} {W W' : World}
theorem LS.draw (h : LS w B b vars vs n vk v ls W) (hs : SrcB B W' b) (ho : Only b W W') : LS w B b vars vs n vk v ls W' := by
  have hb := h.hB
  exact ⟨hs, h.only.trans ho, (ho.block _ (Array.getElem?_eq_some_iff.1 h.box).1 (by omega)).trans h.box, ⟨own_onlyD h.oc.row ho (by omega), fun r hr => own_onlyD (h.oc.each r hr) ho (by omega), h.oc.diff⟩, h.hB⟩
theorem LS.below (h : LS w B b vars vs n vk v ls W) (hb : Below W.heap.size W W') : LS w B b vars vs n vk v ls W' :=
  ⟨h.src.below hb, h.only.trans (Only.of_below hb), (hb.block _ (Array.getElem?_eq_some_iff.1 h.box).1).trans h.box, h.oc.below hb, h.hB⟩
theorem LS.drew (h : LS w B b vars vs n vk v ls W) : LS w B b vars vs n vk v ls W.drew := h.below (Below.refl _ _).drew
theorem LS.cells (h : LS w B b vars vs n vk v ls W) : w.heap.size < W.heap.size ∧ W.cell? ⟨w.heap.size, 0, none⟩ = some (.int .i64 vars) ∧ W.cell? ⟨w.heap.size, 1, none⟩ = some (.slice vs n vk) := by
  have ha := h.box
  exact ⟨(Array.getElem?_eq_some_iff.1 ha).1, by simp [World.cell?, ha], by simp [World.cell?, ha]⟩
theorem LS.grown (h : LS w B b vars vs n vk v ls W) {row : Option Nat} (gr : W.grownBy W' row) (lo : ∀ g, row = some g → w.heap.size + 1 ≤ g) {v' : Value} {ls' : List LCl} (oc : OwC W' (w.heap.size + 1) v' ls') : LS w B b vars vs n vk v' ls' W' := by
  have hb := h.hB
  exact ⟨h.src.grown gr (fun g hg => by have := lo g hg; omega), h.only.grown gr (fun g hg => by have := lo g hg; omega), (gr.block _ (Array.getElem?_eq_some_iff.1 h.box).1 (fun e => by have := lo _ e.symm; omega)).trans h.box, oc, h.hB⟩
theorem LS.app (h : LS w B b vars vs n vk v ls W) (z : Int) (hl : ls.length ≤ 1000) : ∃ s9 k9 w9, (∀ ty, (Builtin.append_ #[23, 23] ty #[v, .slice (some ⟨W.heap.size + 1, 0, none⟩) 1 1]).run Tryd.prog ((W.alloc (.cells #[.int .i64 z] 2)).alloc (.cells #[.slice (some ⟨W.heap.size, 0, none⟩) 1 1] 26)) = .ok (.slice s9 (ls ++ [(Value.slice (some ⟨W.heap.size, 0, none⟩) 1 1, [z])]).length k9) w9) ∧ LS w B b vars vs n vk (.slice s9 (ls ++ [(Value.slice (some ⟨W.heap.size, 0, none⟩) 1 1, [z])]).length k9) (ls ++ [(.slice (some ⟨W.heap.size, 0, none⟩) 1 1, [z])]) w9 := by
  have hc := h.cells.1
  have b1 := bA0 W (.cells #[.int .i64 z] 2)
  have b2 := bA b1 (.cells #[.slice (some ⟨W.heap.size, 0, none⟩) 1 1] 26)
  have H2 := h.below b2
  have or2 := H2.oc.row
  rw [← hdC_len ls] at or2
  have hsz : ((W.alloc (.cells #[.int .i64 z] 2)).alloc (.cells #[.slice (some ⟨W.heap.size, 0, none⟩) 1 1] 26)).heap.size = W.heap.size + 2 := by simp
  obtain ⟨v9, w9, ha, ow9, gr9⟩ := appH or2 (.slice (some ⟨W.heap.size, 0, none⟩) 1 1) rfl (W.heap.size + 1) (cell_at_new' W _ _ 26) (by omega) (by rw [hdC_len]; omega)
  obtain ⟨s9, k9, rfl⟩ := own_v ow9
  rw [hdC_len] at ow9 ha
  have hlo : ∀ g, v.ownBlock = some g → w.heap.size + 1 ≤ g := fun g hg => (h.oc.row.lt g hg).1
  have hone := own_below (own_one1 W z) (bA0 _ (.cells #[.slice (some ⟨W.heap.size, 0, none⟩) 1 1] 26))
  have oc := h.oc.new (r := (.slice (some ⟨W.heap.size, 0, none⟩) 1 1, [z])) b2 (own_mono hone (by omega)) (fun j hj => by simp [Value.ownBlock] at hj; omega) gr9 ow9
  refine ⟨s9, k9, w9, ?_, ?_⟩
  · rw [List.length_append, List.length_singleton]; exact ha
  · rw [List.length_append, List.length_singleton]; exact H2.grown gr9 hlo oc
theorem LS.fin {s : Option Addr} {k : Nat} (h : LS w B b vars vs n vk (.slice s ls.length k) ls W) (hm : LmOk' ls) : LmP B b w (.returned (.slice s ls.length k)) W :=
  ⟨.slice s ls.length k, ls, s, k, ls, rfl, h.oc, fun W o => by
    obtain ⟨s', k', e, c⟩ := o.cls
    cases e
    exact c, hm, h.src, h.only⟩
theorem LS.has {s : Option Addr} {k : Nat} (h : LS w B b vars vs n vk (.slice s ls.length k) ls W) (hn : 0 < ls.length) : ∃ g, s = some ⟨g, 0, none⟩ := by
  rcases h.oc.row.2 with ⟨_, h0⟩ | ⟨g, cap, cur, hv, _⟩
  · omega
  · cases hv; exact ⟨g, rfl⟩
theorem LS.finOne {g k : Nat} (h : LS w B b vars vs n vk (.slice (some ⟨g, 0, none⟩) ls.length k) ls W) (hn : ls.length ≤ 1) (hm : LmOk' ls) : LmP B b w (.returned (.slice (some ⟨g, 0, none⟩) 0 0)) W :=
  ⟨.slice (some ⟨g, 0, none⟩) ls.length k, ls, some ⟨g, 0, none⟩, 0, [], rfl, h.oc, fun W o => ⟨.inl rfl, fun r hr => by cases hr⟩, ⟨by simp, fun r hr => by cases hr⟩, h.src, h.only⟩
theorem LS.finTail {g k : Nat} (h : LS w B b vars vs n vk (.slice (some ⟨g, 0, none⟩) ls.length k) ls W) (hn : 0 < ls.length) (hm : LmOk' ls) : LmP B b w (.returned (.slice (some ⟨g, 1, none⟩) (ls.length - 1) (k - 1))) W :=
  ⟨.slice (some ⟨g, 0, none⟩) ls.length k, ls, _, k - 1, ls.tail, by rw [List.length_tail], h.oc, fun W o => owc_tail o hn, ⟨by have := hm.1; rw [List.length_tail]; omega, fun r hr => hm.2 r (List.mem_of_mem_tail hr)⟩, h.src, h.only⟩
end

set_option maxRecDepth 100000 in
set_option maxHeartbeats 8000000 in
/-- spec.l08Lemmas. -/
theorem llem_any (B b : Nat) (vars : Int) (vs : Option Addr) (vk : Nat) (cs : List LCl) (w : World) (hs : SrcB B w b) (hn : cs.length ≤ 5000) (hsm : ∀ r ∈ cs, r.2.length ≤ 20 ∧ ∀ z ∈ r.2, -100 ≤ z ∧ z ≤ 100) (hc : ∀ W, Only b w W → Cls W vs cs) :
    Calls Tryd.prog 46 #[.pointer (some ⟨b, 0, none⟩), CV vars vs cs.length vk] w (LmP B b w) := by
  have hb := hs.1
  have hB := hs.2.1
  have hwf : WfC cs := fun r hr z hz => wf_in (by have := (hsm r hr).2 z hz; omega) (by have := (hsm r hr).2 z hz; omega)
  have htot : totC cs ≤ 1048576 := by
    have : ∀ l : List LCl, (∀ r ∈ l, r.2.length ≤ 20) → totC l ≤ 20 * l.length := fun l => by
      induction l with
      | nil => intro _; simp [totC]
      | cons r t ih =>
        intro h
        have h1 := ih (fun s hs => h s (by simp [hs]))
        have h2 := h r (by simp)
        have e : totC (r :: t) = r.2.length + totC t := by simp [totC]
        rw [e, List.length_cons]
        omega
    have := this cs (fun r hr => (hsm r hr).1)
    omega
  have hlits : ∀ l ∈ bareC cs, ∀ z ∈ l, wfI z := fun l hl z hz => by
    obtain ⟨r, hr, rfl⟩ := List.mem_map.1 hl
    exact hwf r hr z hz
  have SP : Hid (∀ q W, Only b w W → w.heap.size < W.heap.size → Calls Tryd.prog 18 #[CV vars vs cs.length vk, .int .i64 q] W fun e w' => ∃ (x st c : Int) (s : Option Addr) (tn k : Nat) (l : Option Addr) (j : Nat) (ls : List LCl), e = .returned (.agg #[.int .i64 x, .slice s tn k, .slice l ls.length j, .int .i64 st, .int .i64 c]) ∧ OwC w' (w.heap.size + 1) (.slice l ls.length j) ls ∧ LmOkD ls ∧ Below W.heap.size W w') := fun q W ho hlt => by
    refine (sso_any vars q vs vk cs W (by unfold maxLen; omega) htot hwf (hc W ho)).mono ?_
    rintro e w' ⟨vt, vl, ls, rfl, sv, bl⟩
    obtain ⟨s, k, rfl⟩ := own_v sv.tr
    obtain ⟨l, j, rfl⟩ := sv.ol.v
    have hz := solA_lems vars (bareC cs) q hlits
    rw [← sv.eq] at hz
    exact ⟨_, _, _, s, _, k, l, j, ls, rfl, sv.ol.mono hlt, ⟨by have := hz.1; simpa [bareC] using this, fun r hr => hz.2 r.2 (List.mem_map.2 ⟨r, hr, rfl⟩)⟩, bl⟩
  have G0 : Hid (LS w B b vars vs cs.length vk (.slice none 0 0) [] (w.alloc (.cells #[.int .i64 vars, .slice vs cs.length vk] 25))) := ⟨hs.below (bA0 _ _), Only.of_below (bA0 _ _), new_at _ _, OwC.nil _ _, ⟨hb, hB⟩⟩
  have GD := Lib.hid G0.out.drew
  clear hs hc hwf htot hlits hsm hn G0
  generalize cs.length = n at *
  go_enter Tryd.func46, Tryd.ntmps46
  go_wp2_with fail
  refine wp_region_held_drew (S := fun W => w.heap.size < W.heap.size ∧ W.cell? ⟨w.heap.size, 0, none⟩ = some (.int .i64 vars) ∧ W.cell? ⟨w.heap.size, 1, none⟩ = some (.slice vs n vk)) (by kernel_rfl) ?_ (fun hHeld => ?_)
  · exact GD.out.cells
  generalize (w.alloc (.cells #[.int .i64 vars, .slice vs n vk] 25)).drew = wd at *
  refine wpAnyH_take (i := 1) (oi := _) (v := ?_) rfl (by kernel_rfl) (by kernel_rfl) (by kernel_rfl) (fun _ _ _ h => h) (Or.inl ⟨by rfl, ?_⟩) (by assumption) ?_
  rotate_left
  · intro w hSw; (try dsimp only at hSw); go_simp; try with_reducible rfl
  try simp only [Act.put, List.setIfInBounds_toArray, List.set_cons_zero, List.set_cons_succ, List.getElem_toArray, List.getElem_cons_succ, List.getElem_cons_zero]
  refine wpAnyH_take (i := 2) (oi := _) (v := ?_) rfl (by kernel_rfl) (by kernel_rfl) (by kernel_rfl) (fun _ _ _ h => h) (Or.inl ⟨by rfl, ?_⟩) (by assumption) ?_
  rotate_left
  · intro w hSw; (try dsimp only at hSw); go_simp; try with_reducible rfl
  try simp only [Act.put, List.setIfInBounds_toArray, List.set_cons_zero, List.set_cons_succ, List.getElem_toArray, List.getElem_cons_succ, List.getElem_cons_zero]
  refine wpAnyH_ready (rs := [0, 3]) (by kernel_rfl) (by simp) ?_
  refine AllReadyH.cons rfl (fun K hK => ?_) (AllReadyH.cons rfl (fun K hK => ?_) AllReadyH.nil)
  · have DA := Lib.hid (GD.out.below (bA0 wd (.cells #[] 26)))
    have OA : Hid ((wd.alloc (.cells #[] 26)).ownsRow wd.heap.size 26 1 (.slice (some ⟨wd.heap.size, 0, none⟩) 0 0) 0 []) := own_noneH wd
    have NA : Hid (w.heap.size + 1 ≤ wd.heap.size ∧ wd.heap.size ≤ (wd.alloc (.cells #[] 26)).heap.size) := ⟨GD.out.cells.1, by simp⟩
    go_simp
    refine hK.out _ _ ?_ (fun hHeld => ?_)
    · exact DA.out.cells
    clear hK K
    generalize wd.alloc (.cells #[] 26) = wa at *
    generalize wd.heap.size = be at *
    refine wpAnyH_ready (rs := [3]) (by kernel_rfl) (by simp) ?_
    refine AllReadyH.cons rfl (fun K hK => ?_) AllReadyH.nil
    go_simp
    go_wp2_with (go_at_call 78; refine (nB_lt B b 40 _ (by decide) (by decide) DA.out.src).mono ?_; rintro e w4 ⟨q, rfl, q0, q1, s4, o4⟩)
    have D4 := Lib.hid (DA.out.draw s4 o4)
    have OB := Lib.hid (own_onlyD OA.out o4 (by have := NA.out.1; omega))
    have NB : Hid (w.heap.size + 1 ≤ be ∧ be ≤ w4.heap.size) := ⟨NA.out.1, by have := NA.out.2; have := o4.size; omega⟩
    clear OA NA
    have OA := OB
    have NA := NB
    clear OB NB
    clear s4 o4
    refine hK.out _ _ ?_ (fun hHeld => ?_)
    · exact D4.out.cells
    clear hK K
    refine wpAnyH_ready (rs := [4]) (by kernel_rfl) (by simp) ?_
    refine AllReadyH.cons rfl (fun K hK => ?_) AllReadyH.nil
    have SS := Lib.hid (SP.out q _ D4.out.only D4.out.cells.1)
    go_simp
    go_wp2_with (go_at_call 18; refine SS.out.mono ?_; rintro e w5 ⟨x5, st5, c5, s5, tn5, k5, l5, j5, ls, rfl, o5, hm5, b5⟩)
    have hfd : ∀ w : World, (Instr.field 41 (.agg #[.int .i64 x5, .slice s5 tn5 k5, .slice l5 ls.length j5, .int .i64 st5, .int .i64 c5]) 2).run Tryd.prog w = .ok (.slice l5 ls.length j5) w := fun _ => by kernel_rfl
    have D5 := Lib.hid (D4.out.below b5)
    have O5 := Lib.hid o5
    have M5 := Lib.hid hm5
    have OB := Lib.hid (own_below OA.out b5)
    have NB : Hid (w.heap.size + 1 ≤ be ∧ be ≤ w5.heap.size) := ⟨NA.out.1, by have := NA.out.2; have := b5.size; omega⟩
    clear OA NA
    have OA := OB
    have NA := NB
    clear OB NB
    clear SS o5 hm5 b5
    refine hK.out _ _ ?_ (fun hHeld => ?_)
    · exact D5.out.cells
    clear hK K
    refine wpAnyH_take (i := 5) (oi := _) (v := ?_) rfl (by kernel_rfl) (by kernel_rfl) (by kernel_rfl) (fun _ _ _ h => h) (Or.inl ⟨by rfl, ?_⟩) (by assumption) ?_
    rotate_left
    · intro w hSw; (try dsimp only at hSw); go_simp; try with_reducible rfl
    try simp only [Act.put, List.setIfInBounds_toArray, List.set_cons_zero, List.set_cons_succ, List.getElem_toArray, List.getElem_cons_succ, List.getElem_cons_zero]
    refine wpAnyH_ready (rs := [6]) (by kernel_rfl) (by simp) ?_
    refine AllReadyH.cons rfl (fun K hK => ?_) AllReadyH.nil
    obtain ⟨v9, w9, ha, ow9, gr9⟩ := appHs (us := []) OA.out O5.out NA.out.2 (by have := M5.out.1; simp; omega)
    have ow9' : w9.ownsRow be 26 1 v9 ls.length (hdC ls) := by simpa using ow9
    have D9 := Lib.hid (D5.out.grown gr9 (fun g hg => by cases hg; exact NA.out.1) (owc_behind OA.out O5.out gr9 ow9' (w.heap.size + 1) NA.out.1 (Nat.le_refl _)))
    obtain ⟨s9, k9, rfl⟩ := own_v ow9'
    have ha' := ha 23
    clear ha ow9 ow9' gr9 OA O5
    refine step_append_runD _ rfl (.tmp 6) (.tmp 11) 23 23 rfl _ _ (by simp [Act.eval]) (by simp [Act.eval]) _ _ ha' ?_
    refine hK.out _ _ ?_ (fun hHeld => ?_)
    · exact D9.out.cells
    clear hK K
    try simp only [Act.put, List.setIfInBounds_toArray, List.set_cons_zero, List.set_cons_succ, List.getElem_toArray, List.getElem_cons_succ, List.getElem_cons_zero]
    refine wpAnyH_take (i := 7) (oi := _) (v := ?_) rfl (by kernel_rfl) (by kernel_rfl) (by kernel_rfl) (fun _ _ _ h => h) (Or.inl ⟨by rfl, ?_⟩) (by assumption) ?_
    rotate_left
    · intro w hSw; (try dsimp only at hSw); go_simp; try with_reducible rfl
    try simp only [Act.put, List.setIfInBounds_toArray, List.set_cons_zero, List.set_cons_succ, List.getElem_toArray, List.getElem_cons_succ, List.getElem_cons_zero]
    refine wpAnyH_done (by kernel_rfl) ?_ _
    clear ha' NA
    go_wp2_with fail
    refine (oneB_any B b 6 _ (by decide) D9.out.src).mono ?_
    rintro e w6 ⟨t6, rfl, s6, o6⟩
    have G6 := Lib.hid (D9.out.draw s6 o6)
    clear s6 o6
    obtain ⟨f1, f2, f3⟩ := G6.out.cells
    cases t6 with
    | true =>
      by_cases hv : 0 < vars
      · go_wp2_with fail
        refine (nB_any B b _ _ (by first | exact wrap_hi _ | omega) G6.out.src).mono ?_
        rintro e w7 ⟨r, rfl, r0, r1, s7, o7⟩
        have G7 := Lib.hid (G6.out.draw s7 o7)
        clear s7 o7 f1 f2 f3 G6
        obtain ⟨zz, hzz⟩ : ∃ zz, wrap64 (1 + r) = zz := ⟨_, rfl⟩
        have hwz : wfI zz := by rw [← hzz]; exact wf_wrap _
        obtain ⟨s10, k10, w10, ha, G10⟩ := G7.out.app zz (by have := M5.out.1; omega)
        have MM := Lib.hid (M5.out.add (zz := zz) (s := .slice (some ⟨w7.heap.size, 0, none⟩) 1 1) hwz)
        have ha' := ha 23
        have GG := Lib.hid G10
        clear ha G10 G7 M5 r0 r1 hwz
        generalize hms : ls ++ [(Value.slice (some ⟨w7.heap.size, 0, none⟩) 1 1, [zz])] = ms at *
        clear hms
        generalize ls.length = lsn at *
        go_wp2_with (at_builtin; refine Lib.wpList_append_run _ rfl _ _ _ _ rfl _ _ rfl rfl _ _ ha' ?_)
        clear ha' hzz
        go_wp2_with fail
        refine (oneB_any B b 12 _ (by decide) GG.out.src).mono ?_
        rintro e w8 ⟨t8, rfl, s8, o8⟩
        have G8 := Lib.hid (GG.out.draw s8 o8)
        clear s8 o8
        cases t8 with
        | true =>
          by_cases hn0 : 0 < (ms).length
          · have hn0' : (0 : Int) < ((ms).length : Int) := by omega
            have hn1 : 1 ≤ (ms).length := hn0
            obtain ⟨g8, rfl⟩ := G8.out.has hn0
            have hkc := own_cap8 G8.out.oc.row
            by_cases hk1 : k10 = 1
            · have P := Lib.hid (G8.out.finOne (by omega) MM.out)
              subst hk1
              clear G8 MM
              generalize (ms).length = tn at *
              go_wp2
              go_ret
              exact P.out
            · have P := Lib.hid (G8.out.finTail hn0 MM.out)
              clear G8 MM
              generalize (ms).length = tn at *
              go_wp2
              go_ret
              exact P.out
          · have hn0' : ¬ (0 : Int) < ((ms).length : Int) := by omega
            have P := Lib.hid (G8.out.fin MM.out)
            clear G8 MM
            generalize (ms).length = tn at *
            go_wp2
            go_ret
            exact P.out
        | false =>
          have P := Lib.hid (G8.out.fin MM.out)
          clear G8 MM
          generalize (ms).length = tn at *
          go_wp2
          go_ret
          exact P.out
      · have MM := Lib.hid (M5.out.weak)
        clear M5 f1 f3
        go_wp2_with fail
        refine (oneB_any B b 12 _ (by decide) G6.out.src).mono ?_
        rintro e w8 ⟨t8, rfl, s8, o8⟩
        have G8 := Lib.hid (G6.out.draw s8 o8)
        clear s8 o8
        cases t8 with
        | true =>
          by_cases hn0 : 0 < (ls).length
          · have hn0' : (0 : Int) < ((ls).length : Int) := by omega
            have hn1 : 1 ≤ (ls).length := hn0
            obtain ⟨g8, rfl⟩ := G8.out.has hn0
            have hkc := own_cap8 G8.out.oc.row
            by_cases hk1 : k9 = 1
            · have P := Lib.hid (G8.out.finOne (by omega) MM.out)
              subst hk1
              clear G8 MM
              generalize (ls).length = tn at *
              go_wp2
              go_ret
              exact P.out
            · have P := Lib.hid (G8.out.finTail hn0 MM.out)
              clear G8 MM
              generalize (ls).length = tn at *
              go_wp2
              go_ret
              exact P.out
          · have hn0' : ¬ (0 : Int) < ((ls).length : Int) := by omega
            have P := Lib.hid (G8.out.fin MM.out)
            clear G8 MM
            generalize (ls).length = tn at *
            go_wp2
            go_ret
            exact P.out
        | false =>
          have P := Lib.hid (G8.out.fin MM.out)
          clear G8 MM
          generalize (ls).length = tn at *
          go_wp2
          go_ret
          exact P.out
    | false =>
      have MM := Lib.hid (M5.out.weak)
      clear M5 f1 f2 f3
      go_wp2_with fail
      refine (oneB_any B b 12 _ (by decide) G6.out.src).mono ?_
      rintro e w8 ⟨t8, rfl, s8, o8⟩
      have G8 := Lib.hid (G6.out.draw s8 o8)
      clear s8 o8
      cases t8 with
      | true =>
        by_cases hn0 : 0 < (ls).length
        · have hn0' : (0 : Int) < ((ls).length : Int) := by omega
          have hn1 : 1 ≤ (ls).length := hn0
          obtain ⟨g8, rfl⟩ := G8.out.has hn0
          have hkc := own_cap8 G8.out.oc.row
          by_cases hk1 : k9 = 1
          · have P := Lib.hid (G8.out.finOne (by omega) MM.out)
            subst hk1
            clear G8 MM
            generalize (ls).length = tn at *
            go_wp2
            go_ret
            exact P.out
          · have P := Lib.hid (G8.out.finTail hn0 MM.out)
            clear G8 MM
            generalize (ls).length = tn at *
            go_wp2
            go_ret
            exact P.out
        · have hn0' : ¬ (0 : Int) < ((ls).length : Int) := by omega
          have P := Lib.hid (G8.out.fin MM.out)
          clear G8 MM
          generalize (ls).length = tn at *
          go_wp2
          go_ret
          exact P.out
      | false =>
        have P := Lib.hid (G8.out.fin MM.out)
        clear G8 MM
        generalize (ls).length = tn at *
        go_wp2
        go_ret
        exact P.out
  · go_simp
    go_wp2_with (go_at_call 78; refine (nB_lt B b 40 _ (by decide) (by decide) GD.out.src).mono ?_; rintro e w4 ⟨q, rfl, q0, q1, s4, o4⟩)
    have D4 := Lib.hid (GD.out.draw s4 o4)
    clear s4 o4
    refine hK.out _ _ ?_ (fun hHeld => ?_)
    · exact D4.out.cells
    clear hK K
    refine wpAnyH_ready (rs := [0, 4]) (by kernel_rfl) (by simp) ?_
    refine AllReadyH.cons rfl (fun K hK => ?_) (AllReadyH.cons rfl (fun K hK => ?_) AllReadyH.nil)
    · have DA := Lib.hid (D4.out.below (bA0 w4 (.cells #[] 26)))
      have OA : Hid ((w4.alloc (.cells #[] 26)).ownsRow w4.heap.size 26 1 (.slice (some ⟨w4.heap.size, 0, none⟩) 0 0) 0 []) := own_noneH w4
      have NA : Hid (w.heap.size + 1 ≤ w4.heap.size ∧ w4.heap.size ≤ (w4.alloc (.cells #[] 26)).heap.size) := ⟨D4.out.cells.1, by simp⟩
      go_simp
      refine hK.out _ _ ?_ (fun hHeld => ?_)
      · exact DA.out.cells
      clear hK K
      generalize w4.alloc (.cells #[] 26) = wa at *
      generalize w4.heap.size = be at *
      refine wpAnyH_ready (rs := [4]) (by kernel_rfl) (by simp) ?_
      refine AllReadyH.cons rfl (fun K hK => ?_) AllReadyH.nil
      have SS := Lib.hid (SP.out q _ DA.out.only DA.out.cells.1)
      go_simp
      go_wp2_with (go_at_call 18; refine SS.out.mono ?_; rintro e w5 ⟨x5, st5, c5, s5, tn5, k5, l5, j5, ls, rfl, o5, hm5, b5⟩)
      have hfd : ∀ w : World, (Instr.field 41 (.agg #[.int .i64 x5, .slice s5 tn5 k5, .slice l5 ls.length j5, .int .i64 st5, .int .i64 c5]) 2).run Tryd.prog w = .ok (.slice l5 ls.length j5) w := fun _ => by kernel_rfl
      have D5 := Lib.hid (DA.out.below b5)
      have O5 := Lib.hid o5
      have M5 := Lib.hid hm5
      have OB := Lib.hid (own_below OA.out b5)
      have NB : Hid (w.heap.size + 1 ≤ be ∧ be ≤ w5.heap.size) := ⟨NA.out.1, by have := NA.out.2; have := b5.size; omega⟩
      clear OA NA
      have OA := OB
      have NA := NB
      clear OB NB
      clear SS o5 hm5 b5
      refine hK.out _ _ ?_ (fun hHeld => ?_)
      · exact D5.out.cells
      clear hK K
      refine wpAnyH_take (i := 5) (oi := _) (v := ?_) rfl (by kernel_rfl) (by kernel_rfl) (by kernel_rfl) (fun _ _ _ h => h) (Or.inl ⟨by rfl, ?_⟩) (by assumption) ?_
      rotate_left
      · intro w hSw; (try dsimp only at hSw); go_simp; try with_reducible rfl
      try simp only [Act.put, List.setIfInBounds_toArray, List.set_cons_zero, List.set_cons_succ, List.getElem_toArray, List.getElem_cons_succ, List.getElem_cons_zero]
      refine wpAnyH_ready (rs := [6]) (by kernel_rfl) (by simp) ?_
      refine AllReadyH.cons rfl (fun K hK => ?_) AllReadyH.nil
      obtain ⟨v9, w9, ha, ow9, gr9⟩ := appHs (us := []) OA.out O5.out NA.out.2 (by have := M5.out.1; simp; omega)
      have ow9' : w9.ownsRow be 26 1 v9 ls.length (hdC ls) := by simpa using ow9
      have D9 := Lib.hid (D5.out.grown gr9 (fun g hg => by cases hg; exact NA.out.1) (owc_behind OA.out O5.out gr9 ow9' (w.heap.size + 1) NA.out.1 (Nat.le_refl _)))
      obtain ⟨s9, k9, rfl⟩ := own_v ow9'
      have ha' := ha 23
      clear ha ow9 ow9' gr9 OA O5
      refine step_append_runD _ rfl (.tmp 6) (.tmp 11) 23 23 rfl _ _ (by simp [Act.eval]) (by simp [Act.eval]) _ _ ha' ?_
      refine hK.out _ _ ?_ (fun hHeld => ?_)
      · exact D9.out.cells
      clear hK K
      try simp only [Act.put, List.setIfInBounds_toArray, List.set_cons_zero, List.set_cons_succ, List.getElem_toArray, List.getElem_cons_succ, List.getElem_cons_zero]
      refine wpAnyH_take (i := 7) (oi := _) (v := ?_) rfl (by kernel_rfl) (by kernel_rfl) (by kernel_rfl) (fun _ _ _ h => h) (Or.inl ⟨by rfl, ?_⟩) (by assumption) ?_
      rotate_left
      · intro w hSw; (try dsimp only at hSw); go_simp; try with_reducible rfl
      try simp only [Act.put, List.setIfInBounds_toArray, List.set_cons_zero, List.set_cons_succ, List.getElem_toArray, List.getElem_cons_succ, List.getElem_cons_zero]
      refine wpAnyH_done (by kernel_rfl) ?_ _
      clear ha' NA
      go_wp2_with fail
      refine (oneB_any B b 6 _ (by decide) D9.out.src).mono ?_
      rintro e w6 ⟨t6, rfl, s6, o6⟩
      have G6 := Lib.hid (D9.out.draw s6 o6)
      clear s6 o6
      obtain ⟨f1, f2, f3⟩ := G6.out.cells
      cases t6 with
      | true =>
        by_cases hv : 0 < vars
        · go_wp2_with fail
          refine (nB_any B b _ _ (by first | exact wrap_hi _ | omega) G6.out.src).mono ?_
          rintro e w7 ⟨r, rfl, r0, r1, s7, o7⟩
          have G7 := Lib.hid (G6.out.draw s7 o7)
          clear s7 o7 f1 f2 f3 G6
          obtain ⟨zz, hzz⟩ : ∃ zz, wrap64 (1 + r) = zz := ⟨_, rfl⟩
          have hwz : wfI zz := by rw [← hzz]; exact wf_wrap _
          obtain ⟨s10, k10, w10, ha, G10⟩ := G7.out.app zz (by have := M5.out.1; omega)
          have MM := Lib.hid (M5.out.add (zz := zz) (s := .slice (some ⟨w7.heap.size, 0, none⟩) 1 1) hwz)
          have ha' := ha 23
          have GG := Lib.hid G10
          clear ha G10 G7 M5 r0 r1 hwz
          generalize hms : ls ++ [(Value.slice (some ⟨w7.heap.size, 0, none⟩) 1 1, [zz])] = ms at *
          clear hms
          generalize ls.length = lsn at *
          go_wp2_with (at_builtin; refine Lib.wpList_append_run _ rfl _ _ _ _ rfl _ _ rfl rfl _ _ ha' ?_)
          clear ha' hzz
          go_wp2_with fail
          refine (oneB_any B b 12 _ (by decide) GG.out.src).mono ?_
          rintro e w8 ⟨t8, rfl, s8, o8⟩
          have G8 := Lib.hid (GG.out.draw s8 o8)
          clear s8 o8
          cases t8 with
          | true =>
            by_cases hn0 : 0 < (ms).length
            · have hn0' : (0 : Int) < ((ms).length : Int) := by omega
              have hn1 : 1 ≤ (ms).length := hn0
              obtain ⟨g8, rfl⟩ := G8.out.has hn0
              have hkc := own_cap8 G8.out.oc.row
              by_cases hk1 : k10 = 1
              · have P := Lib.hid (G8.out.finOne (by omega) MM.out)
                subst hk1
                clear G8 MM
                generalize (ms).length = tn at *
                go_wp2
                go_ret
                exact P.out
              · have P := Lib.hid (G8.out.finTail hn0 MM.out)
                clear G8 MM
                generalize (ms).length = tn at *
                go_wp2
                go_ret
                exact P.out
            · have hn0' : ¬ (0 : Int) < ((ms).length : Int) := by omega
              have P := Lib.hid (G8.out.fin MM.out)
              clear G8 MM
              generalize (ms).length = tn at *
              go_wp2
              go_ret
              exact P.out
          | false =>
            have P := Lib.hid (G8.out.fin MM.out)
            clear G8 MM
            generalize (ms).length = tn at *
            go_wp2
            go_ret
            exact P.out
        · have MM := Lib.hid (M5.out.weak)
          clear M5 f1 f3
          go_wp2_with fail
          refine (oneB_any B b 12 _ (by decide) G6.out.src).mono ?_
          rintro e w8 ⟨t8, rfl, s8, o8⟩
          have G8 := Lib.hid (G6.out.draw s8 o8)
          clear s8 o8
          cases t8 with
          | true =>
            by_cases hn0 : 0 < (ls).length
            · have hn0' : (0 : Int) < ((ls).length : Int) := by omega
              have hn1 : 1 ≤ (ls).length := hn0
              obtain ⟨g8, rfl⟩ := G8.out.has hn0
              have hkc := own_cap8 G8.out.oc.row
              by_cases hk1 : k9 = 1
              · have P := Lib.hid (G8.out.finOne (by omega) MM.out)
                subst hk1
                clear G8 MM
                generalize (ls).length = tn at *
                go_wp2
                go_ret
                exact P.out
              · have P := Lib.hid (G8.out.finTail hn0 MM.out)
                clear G8 MM
                generalize (ls).length = tn at *
                go_wp2
                go_ret
                exact P.out
            · have hn0' : ¬ (0 : Int) < ((ls).length : Int) := by omega
              have P := Lib.hid (G8.out.fin MM.out)
              clear G8 MM
              generalize (ls).length = tn at *
              go_wp2
              go_ret
              exact P.out
          | false =>
            have P := Lib.hid (G8.out.fin MM.out)
            clear G8 MM
            generalize (ls).length = tn at *
            go_wp2
            go_ret
            exact P.out
      | false =>
        have MM := Lib.hid (M5.out.weak)
        clear M5 f1 f2 f3
        go_wp2_with fail
        refine (oneB_any B b 12 _ (by decide) G6.out.src).mono ?_
        rintro e w8 ⟨t8, rfl, s8, o8⟩
        have G8 := Lib.hid (G6.out.draw s8 o8)
        clear s8 o8
        cases t8 with
        | true =>
          by_cases hn0 : 0 < (ls).length
          · have hn0' : (0 : Int) < ((ls).length : Int) := by omega
            have hn1 : 1 ≤ (ls).length := hn0
            obtain ⟨g8, rfl⟩ := G8.out.has hn0
            have hkc := own_cap8 G8.out.oc.row
            by_cases hk1 : k9 = 1
            · have P := Lib.hid (G8.out.finOne (by omega) MM.out)
              subst hk1
              clear G8 MM
              generalize (ls).length = tn at *
              go_wp2
              go_ret
              exact P.out
            · have P := Lib.hid (G8.out.finTail hn0 MM.out)
              clear G8 MM
              generalize (ls).length = tn at *
              go_wp2
              go_ret
              exact P.out
          · have hn0' : ¬ (0 : Int) < ((ls).length : Int) := by omega
            have P := Lib.hid (G8.out.fin MM.out)
            clear G8 MM
            generalize (ls).length = tn at *
            go_wp2
            go_ret
            exact P.out
        | false =>
          have P := Lib.hid (G8.out.fin MM.out)
          clear G8 MM
          generalize (ls).length = tn at *
          go_wp2
          go_ret
          exact P.out
    · have SS := Lib.hid (SP.out q _ D4.out.only D4.out.cells.1)
      go_simp
      go_wp2_with (go_at_call 18; refine SS.out.mono ?_; rintro e w5 ⟨x5, st5, c5, s5, tn5, k5, l5, j5, ls, rfl, o5, hm5, b5⟩)
      have hfd : ∀ w : World, (Instr.field 41 (.agg #[.int .i64 x5, .slice s5 tn5 k5, .slice l5 ls.length j5, .int .i64 st5, .int .i64 c5]) 2).run Tryd.prog w = .ok (.slice l5 ls.length j5) w := fun _ => by kernel_rfl
      have D5 := Lib.hid (D4.out.below b5)
      have O5 := Lib.hid o5
      have M5 := Lib.hid hm5
      clear SS o5 hm5 b5
      refine hK.out _ _ ?_ (fun hHeld => ?_)
      · exact D5.out.cells
      clear hK K
      refine wpAnyH_take (i := 5) (oi := _) (v := ?_) rfl (by kernel_rfl) (by kernel_rfl) (by kernel_rfl) (fun _ _ _ h => h) (Or.inl ⟨by rfl, ?_⟩) (by assumption) ?_
      rotate_left
      · intro w hSw; (try dsimp only at hSw); go_simp; try with_reducible rfl
      try simp only [Act.put, List.setIfInBounds_toArray, List.set_cons_zero, List.set_cons_succ, List.getElem_toArray, List.getElem_cons_succ, List.getElem_cons_zero]
      refine wpAnyH_ready (rs := [0]) (by kernel_rfl) (by simp) ?_
      refine AllReadyH.cons rfl (fun K hK => ?_) AllReadyH.nil
      have DA := Lib.hid (D5.out.below (bA0 w5 (.cells #[] 26)))
      have OA : Hid ((w5.alloc (.cells #[] 26)).ownsRow w5.heap.size 26 1 (.slice (some ⟨w5.heap.size, 0, none⟩) 0 0) 0 []) := own_noneH w5
      have NA : Hid (w.heap.size + 1 ≤ w5.heap.size ∧ w5.heap.size ≤ (w5.alloc (.cells #[] 26)).heap.size) := ⟨D5.out.cells.1, by simp⟩
      have OC := Lib.hid (O5.out.below (bA0 w5 (.cells #[] 26)))
      clear O5
      have O5 := OC
      clear OC
      go_simp
      refine hK.out _ _ ?_ (fun hHeld => ?_)
      · exact DA.out.cells
      clear hK K
      generalize w5.alloc (.cells #[] 26) = wa at *
      generalize w5.heap.size = be at *
      refine wpAnyH_ready (rs := [6]) (by kernel_rfl) (by simp) ?_
      refine AllReadyH.cons rfl (fun K hK => ?_) AllReadyH.nil
      obtain ⟨v9, w9, ha, ow9, gr9⟩ := appHs (us := []) OA.out O5.out NA.out.2 (by have := M5.out.1; simp; omega)
      have ow9' : w9.ownsRow be 26 1 v9 ls.length (hdC ls) := by simpa using ow9
      have D9 := Lib.hid (DA.out.grown gr9 (fun g hg => by cases hg; exact NA.out.1) (owc_behind OA.out O5.out gr9 ow9' (w.heap.size + 1) NA.out.1 (Nat.le_refl _)))
      obtain ⟨s9, k9, rfl⟩ := own_v ow9'
      have ha' := ha 23
      clear ha ow9 ow9' gr9 OA O5
      refine step_append_runD _ rfl (.tmp 6) (.tmp 11) 23 23 rfl _ _ (by simp [Act.eval]) (by simp [Act.eval]) _ _ ha' ?_
      refine hK.out _ _ ?_ (fun hHeld => ?_)
      · exact D9.out.cells
      clear hK K
      try simp only [Act.put, List.setIfInBounds_toArray, List.set_cons_zero, List.set_cons_succ, List.getElem_toArray, List.getElem_cons_succ, List.getElem_cons_zero]
      refine wpAnyH_take (i := 7) (oi := _) (v := ?_) rfl (by kernel_rfl) (by kernel_rfl) (by kernel_rfl) (fun _ _ _ h => h) (Or.inl ⟨by rfl, ?_⟩) (by assumption) ?_
      rotate_left
      · intro w hSw; (try dsimp only at hSw); go_simp; try with_reducible rfl
      try simp only [Act.put, List.setIfInBounds_toArray, List.set_cons_zero, List.set_cons_succ, List.getElem_toArray, List.getElem_cons_succ, List.getElem_cons_zero]
      refine wpAnyH_done (by kernel_rfl) ?_ _
      clear ha' NA
      go_wp2_with fail
      refine (oneB_any B b 6 _ (by decide) D9.out.src).mono ?_
      rintro e w6 ⟨t6, rfl, s6, o6⟩
      have G6 := Lib.hid (D9.out.draw s6 o6)
      clear s6 o6
      obtain ⟨f1, f2, f3⟩ := G6.out.cells
      cases t6 with
      | true =>
        by_cases hv : 0 < vars
        · go_wp2_with fail
          refine (nB_any B b _ _ (by first | exact wrap_hi _ | omega) G6.out.src).mono ?_
          rintro e w7 ⟨r, rfl, r0, r1, s7, o7⟩
          have G7 := Lib.hid (G6.out.draw s7 o7)
          clear s7 o7 f1 f2 f3 G6
          obtain ⟨zz, hzz⟩ : ∃ zz, wrap64 (1 + r) = zz := ⟨_, rfl⟩
          have hwz : wfI zz := by rw [← hzz]; exact wf_wrap _
          obtain ⟨s10, k10, w10, ha, G10⟩ := G7.out.app zz (by have := M5.out.1; omega)
          have MM := Lib.hid (M5.out.add (zz := zz) (s := .slice (some ⟨w7.heap.size, 0, none⟩) 1 1) hwz)
          have ha' := ha 23
          have GG := Lib.hid G10
          clear ha G10 G7 M5 r0 r1 hwz
          generalize hms : ls ++ [(Value.slice (some ⟨w7.heap.size, 0, none⟩) 1 1, [zz])] = ms at *
          clear hms
          generalize ls.length = lsn at *
          go_wp2_with (at_builtin; refine Lib.wpList_append_run _ rfl _ _ _ _ rfl _ _ rfl rfl _ _ ha' ?_)
          clear ha' hzz
          go_wp2_with fail
          refine (oneB_any B b 12 _ (by decide) GG.out.src).mono ?_
          rintro e w8 ⟨t8, rfl, s8, o8⟩
          have G8 := Lib.hid (GG.out.draw s8 o8)
          clear s8 o8
          cases t8 with
          | true =>
            by_cases hn0 : 0 < (ms).length
            · have hn0' : (0 : Int) < ((ms).length : Int) := by omega
              have hn1 : 1 ≤ (ms).length := hn0
              obtain ⟨g8, rfl⟩ := G8.out.has hn0
              have hkc := own_cap8 G8.out.oc.row
              by_cases hk1 : k10 = 1
              · have P := Lib.hid (G8.out.finOne (by omega) MM.out)
                subst hk1
                clear G8 MM
                generalize (ms).length = tn at *
                go_wp2
                go_ret
                exact P.out
              · have P := Lib.hid (G8.out.finTail hn0 MM.out)
                clear G8 MM
                generalize (ms).length = tn at *
                go_wp2
                go_ret
                exact P.out
            · have hn0' : ¬ (0 : Int) < ((ms).length : Int) := by omega
              have P := Lib.hid (G8.out.fin MM.out)
              clear G8 MM
              generalize (ms).length = tn at *
              go_wp2
              go_ret
              exact P.out
          | false =>
            have P := Lib.hid (G8.out.fin MM.out)
            clear G8 MM
            generalize (ms).length = tn at *
            go_wp2
            go_ret
            exact P.out
        · have MM := Lib.hid (M5.out.weak)
          clear M5 f1 f3
          go_wp2_with fail
          refine (oneB_any B b 12 _ (by decide) G6.out.src).mono ?_
          rintro e w8 ⟨t8, rfl, s8, o8⟩
          have G8 := Lib.hid (G6.out.draw s8 o8)
          clear s8 o8
          cases t8 with
          | true =>
            by_cases hn0 : 0 < (ls).length
            · have hn0' : (0 : Int) < ((ls).length : Int) := by omega
              have hn1 : 1 ≤ (ls).length := hn0
              obtain ⟨g8, rfl⟩ := G8.out.has hn0
              have hkc := own_cap8 G8.out.oc.row
              by_cases hk1 : k9 = 1
              · have P := Lib.hid (G8.out.finOne (by omega) MM.out)
                subst hk1
                clear G8 MM
                generalize (ls).length = tn at *
                go_wp2
                go_ret
                exact P.out
              · have P := Lib.hid (G8.out.finTail hn0 MM.out)
                clear G8 MM
                generalize (ls).length = tn at *
                go_wp2
                go_ret
                exact P.out
            · have hn0' : ¬ (0 : Int) < ((ls).length : Int) := by omega
              have P := Lib.hid (G8.out.fin MM.out)
              clear G8 MM
              generalize (ls).length = tn at *
              go_wp2
              go_ret
              exact P.out
          | false =>
            have P := Lib.hid (G8.out.fin MM.out)
            clear G8 MM
            generalize (ls).length = tn at *
            go_wp2
            go_ret
            exact P.out
      | false =>
        have MM := Lib.hid (M5.out.weak)
        clear M5 f1 f2 f3
        go_wp2_with fail
        refine (oneB_any B b 12 _ (by decide) G6.out.src).mono ?_
        rintro e w8 ⟨t8, rfl, s8, o8⟩
        have G8 := Lib.hid (G6.out.draw s8 o8)
        clear s8 o8
        cases t8 with
        | true =>
          by_cases hn0 : 0 < (ls).length
          · have hn0' : (0 : Int) < ((ls).length : Int) := by omega
            have hn1 : 1 ≤ (ls).length := hn0
            obtain ⟨g8, rfl⟩ := G8.out.has hn0
            have hkc := own_cap8 G8.out.oc.row
            by_cases hk1 : k9 = 1
            · have P := Lib.hid (G8.out.finOne (by omega) MM.out)
              subst hk1
              clear G8 MM
              generalize (ls).length = tn at *
              go_wp2
              go_ret
              exact P.out
            · have P := Lib.hid (G8.out.finTail hn0 MM.out)
              clear G8 MM
              generalize (ls).length = tn at *
              go_wp2
              go_ret
              exact P.out
          · have hn0' : ¬ (0 : Int) < ((ls).length : Int) := by omega
            have P := Lib.hid (G8.out.fin MM.out)
            clear G8 MM
            generalize (ls).length = tn at *
            go_wp2
            go_ret
            exact P.out
        | false =>
          have P := Lib.hid (G8.out.fin MM.out)
          clear G8 MM
          generalize (ls).length = tn at *
          go_wp2
          go_ret
          exact P.out


set_option maxRecDepth 100000 in
set_option maxHeartbeats 8000000 in
/-- spec.DrawUnitRun. -/
theorem dur_any (sl : Option Addr) (len cap : Nat) (w : World) (hr : RowIn w sl len) :
    Calls Tryd.prog 9 #[.slice sl len cap] w (DuP w) := by
  have HS := Lib.hid (source_any sl len cap (w.alloc (.cells #[.int .i64 0, .slice none 0 0] 25)) (hr.below (bA0 _ _)))
  have R0 := Lib.hid (new_at w (.cells #[.int .i64 0, .slice none 0 0] 25))
  have B0 := Lib.hid (bA0 w (.cells #[.int .i64 0, .slice none 0 0] 25))
  have hz : (w.alloc (.cells #[.int .i64 0, .slice none 0 0] 25)).heap.size = w.heap.size + 1 := by simp
  clear hr
  go_enter Tryd.func9, Tryd.ntmps9
  go_wp2_with fail
  generalize w.alloc (.cells #[.int .i64 0, .slice none 0 0] 25) = w0 at *
  refine HS.out.mono ?_
  rintro e w1 ⟨rfl, s1, b1⟩
  rw [hz] at s1 b1
  have T1 := Lib.hid (lcnf_all w1.heap.size (w.heap.size + 1) w1 (SrcB.of s1))
  have B1 := Lib.hid (B0.out.trans (b1.mono (by omega)))
  have R1 := Lib.hid ((b1.block w.heap.size (by omega)).trans R0.out)
  have h1z : w.heap.size + 1 < w1.heap.size := s1.lt
  clear s1 b1 HS R0 B0
  rw [hz]
  go_wp2_with fail
  refine T1.out.mono ?_
  rintro e w2 ⟨vars, v, cs, rfl, oc, hsm, hl, sr, ho⟩
  obtain ⟨vs, vk, rfl⟩ := own_v oc.row
  have R2 := Lib.hid ((ho.block w.heap.size (by omega) (by omega)).trans R1.out)
  have hs2 := ho.size
  have B2 : Hid (Below w.heap.size w w2) := ho.below B1.out (by omega)
  have SB3 := Lib.hid ((SrcB.of sr).below (bA0 w2 (.cells #[.int .i64 vars, .slice vs cs.length vk] 25)))
  have R3 := Lib.hid (((bA0 w2 (.cells #[.int .i64 vars, .slice vs cs.length vk] 25)).block w.heap.size (by omega)).trans R2.out)
  have B3 : Hid (Below w.heap.size w (w2.alloc (.cells #[.int .i64 vars, .slice vs cs.length vk] 25))) := bT B2.out (bA0 w2 (.cells #[.int .i64 vars, .slice vs cs.length vk] 25))
  have TB := Lib.hid (new_at w2 (.cells #[.int .i64 vars, .slice vs cs.length vk] 25))
  have OC := Lib.hid (oc.below (bA0 w2 (.cells #[.int .i64 vars, .slice vs cs.length vk] 25)))
  have HM : Hid (∀ r ∈ cs, r.2.length ≤ 20 ∧ ∀ z ∈ r.2, -100 ≤ z ∧ z ≤ 100) := hsm
  have hs3 : (w2.alloc (.cells #[.int .i64 vars, .slice vs cs.length vk] 25)).heap.size = w2.heap.size + 1 := by simp
  have SD : Hid (SrcB w2.heap.size (w2.alloc (.cells #[.int .i64 vars, .slice vs cs.length vk] 25)).drew (w.heap.size + 1)) := ⟨SB3.out.1, SB3.out.2.1, SB3.out.2.2⟩
  have LM := Lib.hid (llem_any w2.heap.size (w.heap.size + 1) vars vs vk cs (w2.alloc (.cells #[.int .i64 vars, .slice vs cs.length vk] 25)).drew SD.out hl hsm (fun W hW => by
    have o2 : OwC W w1.heap.size (.slice vs cs.length vk) cs := (OC.out.below (Below.refl _ _).drew).but2 (b := w.heap.size + 1) (r := w.heap.size) (But2.of hW) (by omega) (by omega)
    obtain ⟨s', k', e', c'⟩ := o2.cls
    cases e'
    exact c'))
  clear sr ho T1 R1 B1 R2 B2 hsm oc
  generalize hN : cs.length = n at *
  have HN := Lib.hid hN
  clear hN
  go_wp2_with fail
  generalize w2.alloc (.cells #[.int .i64 vars, .slice vs n vk] 25) = w3 at *
  have D0 : Hid (But2 (w.heap.size + 1) w.heap.size w3 w3.drew) := ⟨Nat.le_refl _, fun _ _ _ _ => rfl⟩
  have KX : Hid (∀ W, But2 (w.heap.size + 1) w.heap.size w3 W → w2.heap.size < W.heap.size ∧ W.cell? ⟨w2.heap.size, 0, none⟩ = some (.int .i64 vars) ∧ W.cell? ⟨w2.heap.size, 1, none⟩ = some (.slice vs n vk)) := fun W a => by
    have hlt := (Array.getElem?_eq_some_iff.1 TB.out).1
    have hb : W.heap[w2.heap.size]? = some (.cells #[.int .i64 vars, .slice vs n vk] 25) := (a.block w2.heap.size hlt (by omega) (by omega)).trans TB.out
    exact ⟨(Array.getElem?_eq_some_iff.1 hb).1, by simp [World.cell?, hb], by simp [World.cell?, hb]⟩
  have CX : Hid (∀ W, But2 (w.heap.size + 1) w.heap.size w3 W → Cls W vs cs) := fun W a => by
    obtain ⟨s', k', e', c'⟩ := (OC.out.but2 a (by omega) (by omega)).cls
    rw [HN.out] at e'
    cases e'
    exact c'
  have FIN : Hid (∀ W s k ms ts tk (T : List Int) lv ls C, But2 (w.heap.size + 1) w.heap.size w3 W → Below w.heap.size w W → OwC W C lv ls → (∀ W, OwC W C lv ls → Cls W s ms) → LmOk' ms → (T.length ≤ 101 ∧ ∀ z ∈ T, -100 ≤ z ∧ z ≤ 100) → Ints W ts T → DuP w (.returned (.tuple #[CV vars vs n vk, .slice s ms.length k, .slice ts T.length tk])) W) := fun W s k ms ts tk T lv ls C a bl ol oc lm tb it =>
    ⟨vars, vs, vk, cs, s, k, ms, ts, tk, T, by rw [HN.out], HM.out, by rw [HN.out]; exact hl, lm, tb, CX.out W a, oc W ol, it, bl⟩
  have BD : Hid (Below w.heap.size w w3.drew) := B3.out.drew
  have RD : Hid (w3.drew.heap[w.heap.size]? = some (.cells #[.int .i64 0, .slice none 0 0] 25)) := R3
  have hz3 : w3.drew.heap.size = w3.heap.size := rfl
  clear HN HM OC TB R3 B3 SB3 CX
  refine wp_region_held_drew (S := fun W => w2.heap.size < W.heap.size ∧ W.cell? ⟨w2.heap.size, 0, none⟩ = some (.int .i64 vars) ∧ W.cell? ⟨w2.heap.size, 1, none⟩ = some (.slice vs n vk)) (by kernel_rfl) ?_ (fun hHeld => ?_)
  · exact KX.out _ D0.out
  refine wpAnyH_take (i := 0) (oi := _) (v := ?_) rfl (by kernel_rfl) (by kernel_rfl) (by kernel_rfl) (fun _ _ _ h => h) (Or.inl ⟨by rfl, ?_⟩) (by assumption) ?_
  rotate_left
  · intro w hSw; (try dsimp only at hSw); go_simp; try with_reducible rfl
  try simp only [Act.put, List.setIfInBounds_toArray, List.set_cons_zero, List.set_cons_succ, List.getElem_toArray, List.getElem_cons_zero]
  refine wpAnyH_take (i := 1) (oi := _) (v := ?_) rfl (by kernel_rfl) (by kernel_rfl) (by kernel_rfl) (fun _ _ _ h => h) (Or.inl ⟨by rfl, ?_⟩) (by assumption) ?_
  rotate_left
  · intro w hSw; (try dsimp only at hSw); go_simp; try with_reducible rfl
  try simp only [Act.put, List.setIfInBounds_toArray, List.set_cons_zero, List.set_cons_succ, List.getElem_toArray, List.getElem_cons_succ, List.getElem_cons_zero]
  refine wpAnyH_take (i := 2) (oi := _) (v := ?_) rfl (by kernel_rfl) (by kernel_rfl) (by kernel_rfl) (fun _ _ _ h => h) (Or.inl ⟨by rfl, ?_⟩) (by assumption) ?_
  rotate_left
  · intro w hSw; (try dsimp only at hSw); go_simp; try with_reducible rfl
  try simp only [Act.put, List.setIfInBounds_toArray, List.set_cons_zero, List.set_cons_succ, List.getElem_toArray, List.getElem_cons_succ, List.getElem_cons_zero]
  refine wpAnyH_take (i := 4) (oi := _) (v := ?_) rfl (by kernel_rfl) (by kernel_rfl) (by kernel_rfl) (fun _ _ _ h => h) (Or.inl ⟨by rfl, ?_⟩) (by assumption) ?_
  rotate_left
  · intro w hSw; (try dsimp only at hSw); go_simp; try with_reducible rfl
  try simp only [Act.put, List.setIfInBounds_toArray, List.set_cons_zero, List.set_cons_succ, List.getElem_toArray, List.getElem_cons_succ, List.getElem_cons_zero]
  refine wpAnyH_take (i := 5) (oi := _) (v := ?_) rfl (by kernel_rfl) (by kernel_rfl) (by kernel_rfl) (fun _ _ _ h => h) (Or.inl ⟨by rfl, ?_⟩) (by assumption) ?_
  rotate_left
  · intro w hSw; (try dsimp only at hSw); go_simp; try with_reducible rfl
  try simp only [Act.put, List.setIfInBounds_toArray, List.set_cons_zero, List.set_cons_succ, List.getElem_toArray, List.getElem_cons_succ, List.getElem_cons_zero]
  refine wpAnyH_ready (rs := [3]) (by kernel_rfl) (by simp) ?_
  refine AllReadyH.cons rfl (fun K hK => ?_) AllReadyH.nil
  go_simp
  go_wp2_with (go_at_call 46; refine LM.out.mono ?_; rintro e w6 ⟨lv, ls, ms_s, ms_k, ms, rfl, lo6, lc6, lm6, s6, o6⟩)
  have D6 := Lib.hid (D0.out.trans (But2.of o6))
  have B6 : Hid (Below w.heap.size w w6) := o6.below BD.out (by omega)
  have R6 : Hid (w6.heap[w.heap.size]? = some (.cells #[.int .i64 0, .slice none 0 0] 25)) := (o6.block w.heap.size (Array.getElem?_eq_some_iff.1 RD.out).1 (by omega)).trans RD.out
  have S6 := Lib.hid s6
  have LO6 := Lib.hid lo6
  have LC6 := Lib.hid lc6
  have LM6 := Lib.hid lm6
  have z6 := o6.size
  clear s6 lo6 lc6 lm6 o6 LM
  refine hK.out _ _ ?_ (fun hHeld => ?_)
  · exact KX.out _ D6.out
  clear hK K
  refine wpAnyH_ready (rs := [6]) (by kernel_rfl) (by simp) ?_
  refine AllReadyH.cons rfl (fun K hK => ?_) AllReadyH.nil
  go_simp
  go_wp2_with (go_at_call 47; refine (ltrl_any w2.heap.size (w.heap.size + 1) vars vs n vk w6 S6.out).mono ?_; rintro e w7 ⟨ts_s, ts_k, T, rfl, ow7, tl7, tb7, s7, o7⟩)
  have D7 := Lib.hid (D6.out.trans (But2.of o7))
  have B7 : Hid (Below w.heap.size w w7) := o7.below B6.out (by omega)
  have R7 : Hid (w7.heap[w.heap.size]? = some (.cells #[.int .i64 0, .slice none 0 0] 25)) := (o7.block w.heap.size (Array.getElem?_eq_some_iff.1 R6.out).1 (by omega)).trans R6.out
  have LO7 : Hid (OwC w7 (w3.drew.heap.size + 1) lv ls) := LO6.out.but2 (But2.of (r := w.heap.size) o7) (by omega) (by omega)
  have OW7 := Lib.hid ow7
  have TB7 : Hid (T.length ≤ 101 ∧ ∀ z ∈ T, -100 ≤ z ∧ z ≤ 100) := ⟨tl7, tb7⟩
  clear s7 ow7 tl7 tb7 o7 LO6 R6 B6
  refine hK.out _ _ ?_ (fun hHeld => ?_)
  · exact KX.out _ D7.out
  clear hK K
  refine wpAnyH_ready (rs := [7]) (by kernel_rfl) (by simp) ?_
  refine AllReadyH.cons rfl (fun K hK => ?_) AllReadyH.nil
  have R8 := heap_setCell_same _ w.heap.size 1 _ 25 (.slice vs n vk) (heap_setCell_same w7 w.heap.size 0 _ 25 (.int .i64 vars) R7.out)
  have c0 : w7.cell? ⟨w.heap.size, 0, none⟩ = some (.int .i64 0) := by simp [World.cell?, R7.out]
  have c1 : w7.cell? ⟨w.heap.size, 1, none⟩ = some (.slice none 0 0) := by simp [World.cell?, R7.out]
  have f0 : w7.frozen? ⟨w.heap.size, 0, none⟩ = false := by simp [World.frozen?, R7.out]
  have f1 : w7.frozen? ⟨w.heap.size, 1, none⟩ = false := by simp [World.frozen?, R7.out]
  have lt7 : w.heap.size < w7.heap.size := (Array.getElem?_eq_some_iff.1 R7.out).1
  have E8 : Hid (But2 (w.heap.size + 1) w.heap.size w7 ((w7.setCell ⟨w.heap.size, 0, none⟩ (.int .i64 vars)).setCell ⟨w.heap.size, 1, none⟩ (.slice vs n vk))) := ((But2.of (Only.refl _ _)).set 0 _).set 1 _
  have D8 := Lib.hid (D7.out.trans E8.out)
  have B8 : Hid (Below w.heap.size w ((w7.setCell ⟨w.heap.size, 0, none⟩ (.int .i64 vars)).setCell ⟨w.heap.size, 1, none⟩ (.slice vs n vk))) := (B7.out.setCell (Nat.le_refl _) _).setCell (Nat.le_refl _) _
  have LO8 : Hid (OwC ((w7.setCell ⟨w.heap.size, 0, none⟩ (.int .i64 vars)).setCell ⟨w.heap.size, 1, none⟩ (.slice vs n vk)) (w3.drew.heap.size + 1) lv ls) := LO7.out.but2 E8.out (by omega) (by omega)
  have OW8 : Hid (((w7.setCell ⟨w.heap.size, 0, none⟩ (.int .i64 vars)).setCell ⟨w.heap.size, 1, none⟩ (.slice vs n vk)).ownsRow (w6.heap.size + 1) 2 1 (.slice ts_s T.length ts_k) T.length (valsZ T)) := own_keep OW7.out (fun j hj => E8.out.block j (OW7.out.lt j hj).2 (by have := own_base OW7.out hj; omega) (by have := own_base OW7.out hj; omega))
  have R8' := Lib.hid R8
  clear R8
  go_simp
  refine hK.out _ _ ?_ (fun hHeld => ?_)
  · exact KX.out _ D8.out
  clear hK K
  refine wpAnyH_take (i := 8) (oi := _) (v := ?_) rfl (by kernel_rfl) (by kernel_rfl) (by kernel_rfl) (fun _ _ _ h => h) (Or.inl ⟨by rfl, ?_⟩) (by assumption) ?_
  rotate_left
  · intro w hSw; (try dsimp only at hSw); go_simp; try with_reducible rfl
  try simp only [Act.put, List.setIfInBounds_toArray, List.set_cons_zero, List.set_cons_succ, List.getElem_toArray, List.getElem_cons_succ, List.getElem_cons_zero]
  refine wpAnyH_take (i := 9) (oi := _) (v := ?_) rfl (by kernel_rfl) (by kernel_rfl) (by kernel_rfl) (fun _ _ _ h => h) (Or.inl ⟨by rfl, ?_⟩) (by assumption) ?_
  rotate_left
  · intro w hSw; (try dsimp only at hSw); go_simp; try with_reducible rfl
  try simp only [Act.put, List.setIfInBounds_toArray, List.set_cons_zero, List.set_cons_succ, List.getElem_toArray, List.getElem_cons_succ, List.getElem_cons_zero]
  refine wpAnyH_done (by kernel_rfl) ?_ _
  obtain ⟨ts_s', ts_k', te', ti'⟩ := own_ints OW8.out
  cases te'
  have e5 : ((w7.setCell ⟨w.heap.size, 0, none⟩ (.int .i64 vars)).setCell ⟨w.heap.size, 1, none⟩ (.slice vs n vk)).cell? ⟨w.heap.size, 0, none⟩ = some (.int .i64 vars) := by simp [World.cell?, R8'.out]
  have e6 : ((w7.setCell ⟨w.heap.size, 0, none⟩ (.int .i64 vars)).setCell ⟨w.heap.size, 1, none⟩ (.slice vs n vk)).cell? ⟨w.heap.size, 1, none⟩ = some (.slice vs n vk) := by simp [World.cell?, R8'.out]
  have P := Lib.hid (FIN.out ((w7.setCell ⟨w.heap.size, 0, none⟩ (.int .i64 vars)).setCell ⟨w.heap.size, 1, none⟩ (.slice vs n vk)) ms_s ms_k ms ts_s ts_k T lv ls _ D8.out B8.out LO8.out LC6.out LM6.out TB7.out ti')
  clear KX FIN ti' OW8 TB7 LM6 LC6 LO8
  go_wp2
  exact bodyPost_ret (v := .tuple #[.agg #[.int .i64 vars, .slice vs n vk], .slice ms_s ms.length ms_k, .slice ts_s T.length ts_k]) (by simp [results, Tryd.results9, go_sem, e5, e6]) rfl P.out

end Go.Proofs.YtoobcodlgajieaaDoor
