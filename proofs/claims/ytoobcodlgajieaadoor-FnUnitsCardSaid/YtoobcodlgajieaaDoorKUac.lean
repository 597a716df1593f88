/-
  WHAT FOLLOWS AT ONCE, as lists; values.follow, impl.listsRight.
  WHAT FOLLOWS AT ONCE: impl.UnitRun.
  UNITS AS THE MODEL FINDS THEM: the values of literals in a row; spec.l08Unit, spec.l08More.
  WHAT FOLLOWS AT ONCE, as the model runs it: spec.l08Run.
-/
import Derived.Test.YtoobcodlgajieaaDoorPt
import Derived.Test.YtoobcodlgajieaaDoorKUab
namespace Go.Proofs.YtoobcodlgajieaaDoor
open Go.RowKit
set_option linter.unusedVariables false

theorem KeepB.trans {b : Nat} {w W V : World} (h : KeepB b w W) (g : KeepB b W V) : KeepB b w V := ⟨Nat.le_trans h.1 g.1, fun k h1 h2 => (g.2 k (Nat.lt_of_lt_of_le h1 h.1) h2).trans (h.2 k h1 h2)⟩
/-- Each list may stand beside the clauses. -/
def MoR (vars : Int) (dss : List (List Int)) : Prop := ∀ l ∈ dss, SpTo vars l l.length


/-- Is it run at all? -/
def UBig (dss : List (List Int)) (ts : List Int) : Prop := 400 < dss.length ∨ 400 < ts.length
def UOk (vars : Int) (css dss : List (List Int)) (ts : List Int) : Prop := CnfR vars css ∧ MoR vars dss ∧ SpTo vars ts ts.length
noncomputable def uAll (vars : Int) (css dss : List (List Int)) (ts : List Int) : List Int × Int × Int :=
  if B (UBig dss ts) = true then ([], 0, 2) else if B (UOk vars css dss ts) = true then ((uRun css dss ts).1, (uRun css dss ts).2, 0) else ([], 0, 1)
theorem uAll_big {vars : Int} {css dss : List (List Int)} {ts : List Int} (h : UBig dss ts) : uAll vars css dss ts = ([], 0, 2) := by unfold uAll; rw [B_yes h]; rfl
theorem uAll_no {vars : Int} {css dss : List (List Int)} {ts : List Int} (h : ¬ UBig dss ts) (h2 : ¬ UOk vars css dss ts) : uAll vars css dss ts = ([], 0, 1) := by unfold uAll; rw [B_no h, B_no h2]; rfl
theorem uAll_yes {vars : Int} {css dss : List (List Int)} {ts : List Int} (h : ¬ UBig dss ts) (h2 : UOk vars css dss ts) : uAll vars css dss ts = ((uRun css dss ts).1, (uRun css dss ts).2, 0) := by unfold uAll; rw [B_no h, B_yes h2]; rfl
/-- Clauses of a right Cnf have literals of its variables. -/
theorem cnfR_lits {vars : Int} {css : List (List Int)} (h : CnfR vars css) (hw : ∀ l ∈ css, ∀ z ∈ l, wfI z) : ∀ l ∈ css, ∀ z ∈ l, OkZ vars z := by
  intro l hl z hz
  obtain ⟨i, hi, rfl⟩ := List.getElem_of_mem hl
  have g := h.2.2 i hi
  have e : css.getD i [] = css[i] := by simp [hi]
  rw [e] at g
  exact (lv_in h.1.1 h.1.2 (hw _ hl z hz)).1 (g.2.1 z hz)
theorem moR_lits {vars : Int} {dss : List (List Int)} (h : MoR vars dss) : ∀ l ∈ dss, ∀ z ∈ l, OkZ vars z := by
  intro l hl z hz
  obtain ⟨i, hi, rfl⟩ := List.getElem_of_mem hz
  have := ((h l hl) i hi).1
  simpa [hi] using this

theorem resF_len (css : List (List Int)) : ∀ (n : Nat) (tr : List Int), (resF css n tr).1.length ≤ tr.length + n
  | 0, tr => Nat.le_refl _
  | n + 1, tr => by
    unfold resF
    split
    · exact Nat.le_add_right _ _
    · have := resF_len css n (tr ++ [(dueL tr 0 css).2])
      rw [List.length_append, List.length_singleton] at this
      omega


set_option maxRecDepth 100000 in
set_option maxHeartbeats 4000000 in
/-- spec.l08More. -/
theorem sm_any (vars : Int) (sl : Option Addr) (n0 cap : Nat) (sl2 : Option Addr) (cap2 : Nat) (ds : List LCl) (w : World) (hv0 : 0 ≤ vars) (hv1 : vars ≤ 96) (hn : ds.length ≤ 400) (hs : totC ds ≤ 1048576) (hz : Cls w sl2 ds) :
    Calls Tryd.prog 49 #[CV vars sl n0 cap, .slice sl2 ds.length cap2] w fun e w' => e = .returned (.bool (B (MoR vars (bareC ds)))) ∧ Below w.heap.size w w' := by
  have CA := Lib.hid (CnfAt.new w vars sl n0 cap)
  have B0 := Lib.hid (bA0 w (.cells #[.int .i64 vars, .slice sl n0 cap] 25))
  have CE := Lib.hid (show ∀ W k, k < ds.length → Below w.heap.size w W → ∃ c o r, sl2 = some ⟨c, o, none⟩ ∧ ds[k]? = some r ∧ c < w.heap.size ∧ W.cell? ⟨c, o + k, none⟩ = some r.1 from fun W k hk hW => by
    obtain ⟨c, o, e, cl, hc⟩ := hz.at hk
    exact ⟨c, o, ds[k], e, List.getElem?_eq_getElem hk, cl, (hW.cell (p := ⟨c, o + k, none⟩) cl).trans (hc k hk)⟩)
  have TK := Lib.hid (show ∀ (k : Nat) (r : LCl), ds[k]? = some r → ∃ s kc, r.1 = .slice s r.2.length kc ∧ ∀ W, Below w.heap.size w W → Calls Tryd.prog 79 #[.int .i64 vars, .slice s r.2.length kc, .int .i64 96] W fun e w' => e = .returned (.bool (B (SpTo vars r.2 r.2.length))) ∧ Below W.heap.size W w' from fun k r hk => by
    obtain ⟨s, kc, e, i, l⟩ := hz.each r (List.mem_of_getElem? hk)
    exact ⟨s, kc, e, fun W hW => l06_wide vars s kc r.2 W hv0 hv1 (Nat.le_trans (totC_mem _ _ (List.mem_of_getElem? hk)) hs) (i.below hW)⟩)
  have NO := Lib.hid (show ∀ (k : Nat) (r : LCl), ds[k]? = some r → ¬ SpTo vars r.2 r.2.length → ¬ MoR vars (bareC ds) from fun k r hk h g => h (g r.2 (List.mem_map.2 ⟨r, List.mem_of_getElem? hk, rfl⟩)))
  have YE := Lib.hid (show ∀ k, ds.length ≤ k → MoR vars (bareC (ds.take k)) → MoR vars (bareC ds) from fun k hk h => by rwa [List.take_of_length_le hk] at h)
  have ST := Lib.hid (show ∀ (k : Nat) (r : LCl), ds[k]? = some r → MoR vars (bareC (ds.take k)) → SpTo vars r.2 r.2.length → MoR vars (bareC (ds.take (k + 1))) from fun k r hk h1 h2 => by
    rw [List.take_add_one, hk]
    intro l hl
    simp only [bareC, List.map_append, List.mem_append, Option.toList_some, List.map_cons, List.map_nil, List.mem_singleton] at hl
    rcases hl with hl | rfl
    · exact h1 l hl
    · exact h2)
  have M0 := Lib.hid (show MoR vars (bareC (ds.take 0)) from fun l hl => by simp [bareC] at hl)
  have hn' : ¬ (400 : Int) < (ds.length : Int) := by omega
  clear hz hs
  generalize hQ : MoR vars (bareC ds) = Q at *
  clear hQ
  generalize hN : ds.length = n at *
  clear hN
  go_enter Tryd.func49, Tryd.ntmps49
  go_wp2
  generalize w.alloc (.cells #[.int .i64 vars, .slice sl n0 cap] 25) = w0 at *
  have hsz0 := CA.out.lt
  go_loopw [5] (fun i wr => ∃ k : Nat, i = .int .i64 k ∧ k ≤ n ∧ Hid (MoR vars (bareC (ds.take k))) ∧ Hid (CnfAt wr w.heap.size vars sl n0 cap) ∧ Hid (Below w.heap.size w wr)) (fun i _ => n - (intOf i).toNat)
  case atStart => exact ⟨0, rfl, Nat.zero_le _, M0, CA, B0⟩
  case round =>
    obtain ⟨k, rfl, hk, H1, H2, H3⟩ := hrel
    have hk0 : (0 : Int) ≤ (k : Int) := by omega
    by_cases h1 : k < n
    · have h1' : (k : Int) < (n : Int) := by omega
      obtain ⟨c, o, r, rfl, hr, hcw, hcell⟩ := CE.out wr k h1 H3.out
      obtain ⟨s, kc, e, CT0⟩ := TK.out k r hr
      rw [e] at hcell
      have CT := Lib.hid CT0
      have hsr := H3.out.size
      by_cases hp : SpTo vars r.2 r.2.length
      · have S1 := Lib.hid (ST.out k r hr H1.out hp)
        rw [B_yes hp] at CT
        clear CT0 e hr hp TK CE NO ST
        generalize r.2.length = m at *
        have KX : Hid (∀ W, Below wr.heap.size wr W → w.heap.size < W.heap.size ∧ W.cell? ⟨w.heap.size, 0, none⟩ = some (.int .i64 vars) ∧ W.cell? ⟨c, o + k, none⟩ = some (.slice s m kc)) := fun W hW => ⟨(H2.out.below hW).lt, (H2.out.below hW).cells.1, (hW.cell (p := ⟨c, o + k, none⟩) (by show c < wr.heap.size; omega)).trans hcell⟩
        go_wp2_with fail
        refine wp_region_held_drew (S := fun W => w.heap.size < W.heap.size ∧ W.cell? ⟨w.heap.size, 0, none⟩ = some (.int .i64 vars) ∧ W.cell? ⟨c, o + k, none⟩ = some (.slice s m kc)) (by kernel_rfl) ?_ (fun hHeld => ?_)
        · exact KX.out _ (Below.refl _ _).drew
        refine wpAnyH_take (i := 0) (oi := _) (v := ?_) rfl (by kernel_rfl) (by kernel_rfl) (by kernel_rfl) (fun _ _ _ h => h) (Or.inl ⟨by rfl, ?_⟩) (by assumption) ?_
        rotate_left
        · intro w hSw; (try dsimp only at hSw); go_simp; try with_reducible rfl
        try simp only [Act.put, List.setIfInBounds_toArray, List.set_cons_zero, List.set_cons_succ, List.getElem_toArray, List.getElem_cons_zero]
        refine wpAnyH_take (i := 1) (oi := _) (v := ?_) rfl (by kernel_rfl) (by kernel_rfl) (by kernel_rfl) (fun _ _ _ h => h) (Or.inl ⟨by rfl, ?_⟩) (by assumption) ?_
        rotate_left
        · intro w hSw; (try dsimp only at hSw); go_simp; try with_reducible rfl
        try simp only [Act.put, List.setIfInBounds_toArray, List.set_cons_zero, List.set_cons_succ, List.getElem_toArray, List.getElem_cons_succ, List.getElem_cons_zero]
        refine wpAnyH_take (i := 2) (oi := _) (v := ?_) rfl (by kernel_rfl) (by kernel_rfl) (by kernel_rfl) (fun _ _ _ h => h) (Or.inl ⟨by rfl, ?_⟩) (by assumption) ?_
        rotate_left
        · intro w hSw; (try dsimp only at hSw); go_simp; try with_reducible rfl
        try simp only [Act.put, List.setIfInBounds_toArray, List.set_cons_zero, List.set_cons_succ, List.getElem_toArray, List.getElem_cons_succ, List.getElem_cons_zero]
        refine wpAnyH_take (i := 3) (oi := _) (v := ?_) rfl (by kernel_rfl) (by kernel_rfl) (by kernel_rfl) (fun _ _ _ h => h) (Or.inl ⟨by rfl, ?_⟩) (by assumption) ?_
        rotate_left
        · intro w hSw; (try dsimp only at hSw); go_simp; try with_reducible rfl
        try simp only [Act.put, List.setIfInBounds_toArray, List.set_cons_zero, List.set_cons_succ, List.getElem_toArray, List.getElem_cons_succ, List.getElem_cons_zero]
        refine wpAnyH_take (i := 4) (oi := _) (v := ?_) rfl (by kernel_rfl) (by kernel_rfl) (by kernel_rfl) (fun _ _ _ h => h) (Or.inl ⟨by rfl, ?_⟩) (by assumption) ?_
        rotate_left
        · intro w hSw; (try dsimp only at hSw); go_simp; try with_reducible rfl
        try simp only [Act.put, List.setIfInBounds_toArray, List.set_cons_zero, List.set_cons_succ, List.getElem_toArray, List.getElem_cons_succ, List.getElem_cons_zero]
        refine wpAnyH_take (i := 5) (oi := _) (v := ?_) rfl (by kernel_rfl) (by kernel_rfl) (by kernel_rfl) (fun _ _ _ h => h) (Or.inl ⟨by rfl, ?_⟩) (by assumption) ?_
        rotate_left
        · intro w hSw; (try dsimp only at hSw); go_simp; try with_reducible rfl
        try simp only [Act.put, List.setIfInBounds_toArray, List.set_cons_zero, List.set_cons_succ, List.getElem_toArray, List.getElem_cons_succ, List.getElem_cons_zero]
        refine wpAnyH_ready (rs := [6]) (by kernel_rfl) (by simp) ?_
        refine AllReadyH.cons rfl (fun K hK => ?_) AllReadyH.nil
        go_simp
        go_wp2_with (go_at_call 79; refine (CT.out _ H3.out.drew).mono ?_; rintro e w7 ⟨rfl, b7⟩)
        have D7 : Hid (Below wr.heap.size wr w7) := bT ((Below.refl wr.heap.size wr).drew) b7
        clear b7
        refine hK.out _ _ ?_ (fun hHeld => ?_)
        · exact KX.out _ D7.out
        clear hK K
        refine wpAnyH_take (i := 7) (oi := _) (v := ?_) rfl (by kernel_rfl) (by kernel_rfl) (by kernel_rfl) (fun _ _ _ h => h) (Or.inl ⟨by rfl, ?_⟩) (by assumption) ?_
        rotate_left
        · intro w hSw; (try dsimp only at hSw); go_simp; try with_reducible rfl
        try simp only [Act.put, List.setIfInBounds_toArray, List.set_cons_zero, List.set_cons_succ, List.getElem_toArray, List.getElem_cons_succ, List.getElem_cons_zero]
        refine wpAnyH_done (by kernel_rfl) ?_ _
        have B9 := Lib.hid (bT H3.out D7.out)
        have C9 := Lib.hid (H2.out.below D7.out)
        clear D7 KX CT
        go_wp2
        go_roundw
        case rel => exact ⟨k + 1, by go_num, by omega, S1, C9, B9⟩
        case measure => simp [intOf]; omega
      · have NQ := Lib.hid (NO.out k r hr hp)
        rw [B_no hp] at CT
        clear CT0 e hr hp TK CE NO ST
        generalize r.2.length = m at *
        have KX : Hid (∀ W, Below wr.heap.size wr W → w.heap.size < W.heap.size ∧ W.cell? ⟨w.heap.size, 0, none⟩ = some (.int .i64 vars) ∧ W.cell? ⟨c, o + k, none⟩ = some (.slice s m kc)) := fun W hW => ⟨(H2.out.below hW).lt, (H2.out.below hW).cells.1, (hW.cell (p := ⟨c, o + k, none⟩) (by show c < wr.heap.size; omega)).trans hcell⟩
        go_wp2_with fail
        refine wp_region_held_drew (S := fun W => w.heap.size < W.heap.size ∧ W.cell? ⟨w.heap.size, 0, none⟩ = some (.int .i64 vars) ∧ W.cell? ⟨c, o + k, none⟩ = some (.slice s m kc)) (by kernel_rfl) ?_ (fun hHeld => ?_)
        · exact KX.out _ (Below.refl _ _).drew
        refine wpAnyH_take (i := 0) (oi := _) (v := ?_) rfl (by kernel_rfl) (by kernel_rfl) (by kernel_rfl) (fun _ _ _ h => h) (Or.inl ⟨by rfl, ?_⟩) (by assumption) ?_
        rotate_left
        · intro w hSw; (try dsimp only at hSw); go_simp; try with_reducible rfl
        try simp only [Act.put, List.setIfInBounds_toArray, List.set_cons_zero, List.set_cons_succ, List.getElem_toArray, List.getElem_cons_zero]
        refine wpAnyH_take (i := 1) (oi := _) (v := ?_) rfl (by kernel_rfl) (by kernel_rfl) (by kernel_rfl) (fun _ _ _ h => h) (Or.inl ⟨by rfl, ?_⟩) (by assumption) ?_
        rotate_left
        · intro w hSw; (try dsimp only at hSw); go_simp; try with_reducible rfl
        try simp only [Act.put, List.setIfInBounds_toArray, List.set_cons_zero, List.set_cons_succ, List.getElem_toArray, List.getElem_cons_succ, List.getElem_cons_zero]
        refine wpAnyH_take (i := 2) (oi := _) (v := ?_) rfl (by kernel_rfl) (by kernel_rfl) (by kernel_rfl) (fun _ _ _ h => h) (Or.inl ⟨by rfl, ?_⟩) (by assumption) ?_
        rotate_left
        · intro w hSw; (try dsimp only at hSw); go_simp; try with_reducible rfl
        try simp only [Act.put, List.setIfInBounds_toArray, List.set_cons_zero, List.set_cons_succ, List.getElem_toArray, List.getElem_cons_succ, List.getElem_cons_zero]
        refine wpAnyH_take (i := 3) (oi := _) (v := ?_) rfl (by kernel_rfl) (by kernel_rfl) (by kernel_rfl) (fun _ _ _ h => h) (Or.inl ⟨by rfl, ?_⟩) (by assumption) ?_
        rotate_left
        · intro w hSw; (try dsimp only at hSw); go_simp; try with_reducible rfl
        try simp only [Act.put, List.setIfInBounds_toArray, List.set_cons_zero, List.set_cons_succ, List.getElem_toArray, List.getElem_cons_succ, List.getElem_cons_zero]
        refine wpAnyH_take (i := 4) (oi := _) (v := ?_) rfl (by kernel_rfl) (by kernel_rfl) (by kernel_rfl) (fun _ _ _ h => h) (Or.inl ⟨by rfl, ?_⟩) (by assumption) ?_
        rotate_left
        · intro w hSw; (try dsimp only at hSw); go_simp; try with_reducible rfl
        try simp only [Act.put, List.setIfInBounds_toArray, List.set_cons_zero, List.set_cons_succ, List.getElem_toArray, List.getElem_cons_succ, List.getElem_cons_zero]
        refine wpAnyH_take (i := 5) (oi := _) (v := ?_) rfl (by kernel_rfl) (by kernel_rfl) (by kernel_rfl) (fun _ _ _ h => h) (Or.inl ⟨by rfl, ?_⟩) (by assumption) ?_
        rotate_left
        · intro w hSw; (try dsimp only at hSw); go_simp; try with_reducible rfl
        try simp only [Act.put, List.setIfInBounds_toArray, List.set_cons_zero, List.set_cons_succ, List.getElem_toArray, List.getElem_cons_succ, List.getElem_cons_zero]
        refine wpAnyH_ready (rs := [6]) (by kernel_rfl) (by simp) ?_
        refine AllReadyH.cons rfl (fun K hK => ?_) AllReadyH.nil
        go_simp
        go_wp2_with (go_at_call 79; refine (CT.out _ H3.out.drew).mono ?_; rintro e w7 ⟨rfl, b7⟩)
        have D7 : Hid (Below wr.heap.size wr w7) := bT ((Below.refl wr.heap.size wr).drew) b7
        clear b7
        refine hK.out _ _ ?_ (fun hHeld => ?_)
        · exact KX.out _ D7.out
        clear hK K
        refine wpAnyH_take (i := 7) (oi := _) (v := ?_) rfl (by kernel_rfl) (by kernel_rfl) (by kernel_rfl) (fun _ _ _ h => h) (Or.inl ⟨by rfl, ?_⟩) (by assumption) ?_
        rotate_left
        · intro w hSw; (try dsimp only at hSw); go_simp; try with_reducible rfl
        try simp only [Act.put, List.setIfInBounds_toArray, List.set_cons_zero, List.set_cons_succ, List.getElem_toArray, List.getElem_cons_succ, List.getElem_cons_zero]
        refine wpAnyH_done (by kernel_rfl) ?_ _
        have B9 := Lib.hid (bT H3.out D7.out)
        clear D7 KX CT
        go_wp2
        go_ret
        exact ⟨by rw [B_no NQ.out]; rfl, B9.out⟩
    · have h1' : ¬ (k : Int) < (n : Int) := by omega
      have HY := Lib.hid (YE.out k (by omega) H1.out)
      clear TK CE NO ST
      go_wp2
      go_ret
      exact ⟨by rw [B_yes HY.out]; rfl, H3.out⟩


end Go.Proofs.YtoobcodlgajieaaDoor
