/-
  THE LAW OF TRUES: the walk.
-/
import Derived.Test.YtaogkdhloogmhaaCf
import Derived.Test.YtaogkdhloogmhaaDp
namespace Go.Proofs.Ytaogkdhloogmhaa
open Go.RowKit
set_option linter.unusedVariables false
set_option linter.unusedSimpArgs false

/-- What was drawn. -/
structure CW (w : World) (b3 : Nat) (sl1 : Option Addr) (rn cap1 : Nat) (sl2 : Option Addr) (pn cap2 : Nat) (rs : List LSt) (ps : List LPr) (si : Option Addr) (ids : List Int) (st : Option Addr) (T : List Int) (W : World) : Prop where
  bel : Below w.heap.size w W
  tab : TabAt W b3 sl1 rn cap1 sl2 pn cap2
  s : Sts W sl1 rs
  p : Prs W sl2 ps
  i : Ints W si ids
  t : Ints W st T
section
variable {w : World} {b3 : Nat} {sl1 : Option Addr} {rn cap1 : Nat} {sl2 : Option Addr} {pn cap2 : Nat} {rs : List LSt} {ps : List LPr} {si : Option Addr} {ids : List Int} {st : Option Addr} {T : List Int} {W W' : World}
theorem CW.below (h : CW w b3 sl1 rn cap1 sl2 pn cap2 rs ps si ids st T W) (hb : Below W.heap.size W W') : CW w b3 sl1 rn cap1 sl2 pn cap2 rs ps si ids st T W' :=
  ⟨bT h.bel hb, h.tab.below hb, h.s.below hb, h.p.below hb, h.i.below hb, h.t.below hb⟩
theorem CW.drew (h : CW w b3 sl1 rn cap1 sl2 pn cap2 rs ps si ids st T W) : CW w b3 sl1 rn cap1 sl2 pn cap2 rs ps si ids st T W.drew := h.below (Below.refl _ _).drew
theorem CW.cells (h : CW w b3 sl1 rn cap1 sl2 pn cap2 rs ps si ids st T W) : b3 < W.heap.size ∧ W.cell? ⟨b3, 0, none⟩ = some (.slice sl1 rn cap1) ∧ W.cell? ⟨b3, 1, none⟩ = some (.slice sl2 pn cap2) := ⟨h.tab.lt, h.tab.cells⟩
end
/-- Clauses, in their box. -/
structure CN (b : Nat) (N : Int) (vs : Option Addr) (cn vk : Nat) (cs : List LCl) (W : World) : Prop where
  own : ∃ B, OwC W B (.slice vs cn vk) cs
  box : W.heap[b]? = some (.cells #[.int .i64 N, .slice vs cn vk] 33)
section
variable {b : Nat} {N : Int} {vs : Option Addr} {cn vk : Nat} {cs : List LCl} {W W' : World}
theorem CN.below (h : CN b N vs cn vk cs W) (hb : Below W.heap.size W W') : CN b N vs cn vk cs W' := by
  obtain ⟨B, h1⟩ := h.own
  exact ⟨⟨B, h1.below hb⟩, (hb.block b (Array.getElem?_eq_some_iff.1 h.box).1).trans h.box⟩
theorem CN.drew (h : CN b N vs cn vk cs W) : CN b N vs cn vk cs W.drew := h.below (Below.refl _ _).drew
theorem CN.cells (h : CN b N vs cn vk cs W) : b < W.heap.size ∧ W.cell? ⟨b, 0, none⟩ = some (.int .i64 N) ∧ W.cell? ⟨b, 1, none⟩ = some (.slice vs cn vk) := by
  have ha := h.box
  exact ⟨(Array.getElem?_eq_some_iff.1 ha).1, by simp [World.cell?, ha], by simp [World.cell?, ha]⟩
end
/-- Block b came next behind world u. -/
def Fr (u : World) (b : Nat) (W : World) : Prop := u.heap.size = b ∧ Below u.heap.size u W
theorem Fr.below {u W W' : World} {b : Nat} (h : Fr u b W) (hb : Below W.heap.size W W') : Fr u b W' := ⟨h.1, bT h.2 hb⟩
theorem CW.fr {w : World} {b3 : Nat} {sl1 : Option Addr} {rn cap1 : Nat} {sl2 : Option Addr} {pn cap2 : Nat} {rs : List LSt} {ps : List LPr} {si : Option Addr} {ids : List Int} {st : Option Addr} {T : List Int} {u W W' : World} {b : Nat} (h : CW w b3 sl1 rn cap1 sl2 pn cap2 rs ps si ids st T u) (f : Fr u b W) (ho : Only b W W') : CW w b3 sl1 rn cap1 sl2 pn cap2 rs ps si ids st T W' :=
  h.below (ho.below f.2 (by rw [f.1]; exact Nat.le_refl _))
theorem OwC.onlyB {B : Nat} {v : Value} {cs : List LCl} {b : Nat} {w w' : World} {us : Array Value} (h : OwC w B v cs) (ho : Only b w w') (hx : w.heap[b]? = some (.cells us 33)) : OwC w' B v cs :=
  ⟨own_onlyD h.row ho hx (by decide), fun r hr => own_onlyD (h.each r hr) ho hx (by decide), h.diff⟩

set_option maxRecDepth 100000 in
set_option maxHeartbeats 16000000 in
theorem law3_of (sl : Option Addr) (len cap : Nat) (w : World) (hl : len ≤ maxLen) (DS : Calls Try.prog 4 #[.slice sl len cap] w (DqP w)) :
    Calls Try.prog 3 #[.slice sl len cap] w fun e w' => e = .returned (.bool true) ∧ Below w.heap.size w w' := by
  unfold maxLen at hl
  by_cases hz : 1048576 < len
  · have hz' : (1048576 : Int) < (len : Int) := by omega
    clear DS
    go_enter Try.func3, Try.ntmps3
    go_wp2
    go_ret
    exact ⟨rfl, Below.refl _ _⟩
  have hz' : ¬ (1048576 : Int) < (len : Int) := by omega
  have DS' := Lib.hid DS
  clear DS
  go_enter Try.func3, Try.ntmps3
  go_wp2_with fail
  refine DS'.out.mono ?_
  rintro e w1 ⟨sl1, cap1, sl2, cap2, rs, ps, top, si, ki, ids, st, kt, T, rfl, h14, h41, hwp, hid, htl, hst, hpr, hii, hit, bel⟩
  clear DS' hz hz' hl
  have B2 : Hid (CW w w1.heap.size sl1 rs.length cap1 sl2 ps.length cap2 rs ps si ids st T (w1.alloc (.cells #[.slice sl1 rs.length cap1, .slice sl2 ps.length cap2] 26))) := ⟨bT bel (bA0 _ _), TabAt.new _ _ _ _ _ _ _, hst.below (bA0 _ _), hpr.below (bA0 _ _), hii.below (bA0 _ _), hit.below (bA0 _ _)⟩
  have IR : Hid (∀ W, CW w w1.heap.size sl1 rs.length cap1 sl2 ps.length cap2 rs ps si ids st T W → Calls Try.prog 5 #[TV sl1 rs.length cap1 sl2 ps.length cap2, .slice si ids.length ki] W fun e w' => e = .returned (.bool (B (IdsR rs ps ids))) ∧ Below W.heap.size W w') := fun W h => sir_any sl1 cap1 sl2 cap2 si ki rs ps ids W (by omega) (by omega) h.s h.p h.i
  have LI : Hid (∀ W, CW w w1.heap.size sl1 rs.length cap1 sl2 ps.length cap2 rs ps si ids st T W → Calls Try.prog 7 #[.slice si ids.length ki] W fun e w' => ∃ s' k', e = .returned (.slice s' ids.length k') ∧ w'.ownsRow W.heap.size 2 1 (.slice s' ids.length k') ids.length (valsZ ids) ∧ Below W.heap.size W w') := fun W h => by
    refine (lwc_any si ki ids W (by omega) h.i).mono ?_
    rintro e w' ⟨v, rfl, o, b⟩
    obtain ⟨s', k', rfl⟩ := own_v o
    exact ⟨s', k', rfl, o, b⟩
  have LT : Hid (∀ W, CW w w1.heap.size sl1 rs.length cap1 sl2 ps.length cap2 rs ps si ids st T W → Calls Try.prog 7 #[.slice st T.length kt] W fun e w' => ∃ s' k', e = .returned (.slice s' T.length k') ∧ w'.ownsRow W.heap.size 2 1 (.slice s' T.length k') T.length (valsZ T) ∧ Below W.heap.size W w') := fun W h => by
    refine (lwc_any st kt T W (by omega) h.t).mono ?_
    rintro e w' ⟨v, rfl, o, b⟩
    obtain ⟨s', k', rfl⟩ := own_v o
    exact ⟨s', k', rfl, o, b⟩
  have CL : Hid (∀ cs : List LCl, bareC cs = cnA rs ps top ids → cs.length = (cnA rs ps top ids).length) := fun cs e => by rw [← e]; simp [bareC]
  have IC : Hid (∀ (W : World) s' k' (B : Nat), CW w w1.heap.size sl1 rs.length cap1 sl2 ps.length cap2 rs ps si ids st T W → W.ownsRow B 2 1 (.slice s' ids.length k') ids.length (valsZ ids) → Calls Try.prog 6 #[TV sl1 rs.length cap1 sl2 ps.length cap2, .int .i64 top, .slice s' ids.length k'] W fun e w' => ∃ vs vk cs, e = .returned (.agg #[.int .i64 (cnN rs ps top ids : Nat), .slice vs (cnA rs ps top ids).length vk]) ∧ OwC w' W.heap.size (.slice vs (cnA rs ps top ids).length vk) cs ∧ bareC cs = cnA rs ps top ids ∧ Below W.heap.size W w') := fun W s' k' B h o => by
    obtain ⟨s1, k1, e1, i1⟩ := own_ints o
    cases e1
    refine (ico_any sl1 cap1 sl2 cap2 s' k' rs ps top ids W (by omega) (by unfold maxLen; omega) h.s h.p hwp i1).mono ?_
    rintro e w' ⟨v, cs, rfl, oc, eb, b⟩
    obtain ⟨vs, vk, rfl⟩ := oc.v
    rw [CL.out cs eb] at oc ⊢
    exact ⟨vs, vk, cs, rfl, oc, eb, b⟩
  have SO : Hid (∀ (W : World), CW w w1.heap.size sl1 rs.length cap1 sl2 ps.length cap2 rs ps si ids st T W → Calls Try.prog 9 #[TV sl1 rs.length cap1 sl2 ps.length cap2, .int .i64 top, .slice si ids.length ki] W fun e w' => ∃ vs vk cs, e = .returned (.agg #[.int .i64 (cnN rs ps top ids : Nat), .slice vs (cnA rs ps top ids).length vk]) ∧ OwC w' W.heap.size (.slice vs (cnA rs ps top ids).length vk) cs ∧ bareC cs = cnA rs ps top ids ∧ Below W.heap.size W w') := fun W h => by
    refine (sco_any sl1 cap1 sl2 cap2 si ki rs ps top ids W (by omega) (by omega) h.s h.p h.i).mono ?_
    rintro e w' ⟨v, cs, rfl, oc, eb, b⟩
    obtain ⟨vs, vk, rfl⟩ := oc.v
    rw [CL.out cs eb] at oc ⊢
    exact ⟨vs, vk, cs, rfl, oc, eb, b⟩
  have CT0 : Hid (∀ (W : World) vs vk cs s' k' (B B' : Nat), OwC W B (.slice vs (cnA rs ps top ids).length vk) cs → bareC cs = cnA rs ps top ids → W.ownsRow B' 2 1 (.slice s' T.length k') T.length (valsZ T) → Calls Try.prog 8 #[CV (cnN rs ps top ids : Nat) vs (cnA rs ps top ids).length vk, .slice s' T.length k'] W fun e w' => e = .returned (.bool (fC (cnN rs ps top ids : Nat) (cnA rs ps top ids) T == -1)) ∧ Below W.heap.size W w') := fun W vs vk cs s' k' B B' oc eb o => by
    obtain ⟨s1, k1, e1, i1⟩ := own_ints o
    cases e1
    have hc := CL.out cs eb
    rw [← hc] at oc ⊢
    obtain ⟨s2, k2, e2, c2⟩ := oc.cls
    cases e2
    have hf := (cnA_fit rs ps top ids cs eb).2
    have := ict_any (cnN rs ps top ids : Nat) vs vk cs s' k' T W (by unfold maxLen; omega) (by unfold maxLen; omega) c2 i1
    rwa [eb] at this
  have SCT : Hid (∀ (W : World) vs vk cs (B : Nat), CW w w1.heap.size sl1 rs.length cap1 sl2 ps.length cap2 rs ps si ids st T W → OwC W B (.slice vs (cnA rs ps top ids).length vk) cs → bareC cs = cnA rs ps top ids → Calls Try.prog 10 #[CV (cnN rs ps top ids : Nat) vs (cnA rs ps top ids).length vk, .slice st T.length kt] W fun e w' => e = .returned (.bool (fC (cnN rs ps top ids : Nat) (cnA rs ps top ids) T == -1)) ∧ Below W.heap.size W w') := fun W vs vk cs B h oc eb => by
    have hc := CL.out cs eb
    rw [← hc] at oc ⊢
    obtain ⟨s2, k2, e2, c2⟩ := oc.cls
    cases e2
    have hf := cnA_fit rs ps top ids cs eb
    have htot : totC cs ≤ 1048576 := by have := tot_fit cs (fun r hr => (hf.1 r hr).1); have := hf.2; omega
    have hwf : WfC cs := fun r hr z hz => wf_fit ((hf.1 r hr).2 z hz)
    have := sct_any (cnN rs ps top ids : Nat) vs vk cs st kt T W (by have := hf.2; unfold maxLen; omega) htot hwf (by omega) c2 h.t
    rwa [eb] at this
  have PL : (poA rs ps top ids T).length ≤ 1000 := by
    by_cases h : PoOK rs ps top ids T
    · rw [poA_yes h]; unfold poP; rw [List.length_map]; exact htl
    · rw [poA_no h]; simp
  have PO : Hid (∀ (W : World) s1 k1 s2 k2 (B B' : Nat), CW w w1.heap.size sl1 rs.length cap1 sl2 ps.length cap2 rs ps si ids st T W → W.ownsRow B 2 1 (.slice s1 ids.length k1) ids.length (valsZ ids) → W.ownsRow B' 2 1 (.slice s2 T.length k2) T.length (valsZ T) → Calls Try.prog 11 #[TV sl1 rs.length cap1 sl2 ps.length cap2, .int .i64 top, .slice s1 ids.length k1, .slice s2 T.length k2] W fun e w' => ∃ sp kp, e = .returned (.slice sp (poA rs ps top ids T).length kp) ∧ w'.ownsRow W.heap.size 64 2 (.slice sp (poA rs ps top ids T).length kp) (poA rs ps top ids T).length (enCells (poA rs ps top ids T)) ∧ Below W.heap.size W w') := fun W s1 k1 s2 k2 B B' h o1 o2 => by
    obtain ⟨x1, y1, e1, i1⟩ := own_ints o1
    cases e1
    obtain ⟨x2, y2, e2, i2⟩ := own_ints o2
    cases e2
    refine (ipo_any sl1 cap1 sl2 cap2 s1 k1 s2 k2 rs ps ids T top W (by omega) (by unfold maxLen; omega) (by unfold maxLen; omega) h.s h.p hwp i1 i2).mono ?_
    rintro e w' ⟨v, rfl, o, b⟩
    obtain ⟨sp, kp, rfl⟩ := own_v o
    exact ⟨sp, kp, rfl, o, b⟩
  have pls : ∀ (W : World) (B : Nat) sp kp, W.ownsRow B 64 2 (.slice sp (poA rs ps top ids T).length kp) (poA rs ps top ids T).length (enCells (poA rs ps top ids T)) → Pls W sp (poA rs ps top ids T) := fun W B sp kp o => by
    obtain ⟨s', k', e', h'⟩ := own_pls o
    cases e'
    rcases h' with h' | ⟨c, e, pa, _⟩
    · exact .inl h'
    · exact .inr ⟨c, 0, e, pa⟩
  have LP : Hid (∀ (W : World) (B : Nat) sp kp, W.ownsRow B 64 2 (.slice sp (poA rs ps top ids T).length kp) (poA rs ps top ids T).length (enCells (poA rs ps top ids T)) → Calls Try.prog 13 #[.slice sp (poA rs ps top ids T).length kp] W fun e w' => ∃ s' k', e = .returned (.slice s' (poA rs ps top ids T).length k') ∧ w'.ownsRow W.heap.size 64 2 (.slice s' (poA rs ps top ids T).length k') (poA rs ps top ids T).length (enCells (poA rs ps top ids T)) ∧ Below W.heap.size W w') := fun W B sp kp o => by
    refine (lwp_any sp kp (poA rs ps top ids T) W (by omega) (pls W B sp kp o)).mono ?_
    rintro e w' ⟨v, rfl, o, b⟩
    obtain ⟨s', k', rfl⟩ := own_v o
    exact ⟨s', k', rfl, o, b⟩
  have PR : Hid (∀ (W : World) (B : Nat) sp kp, CW w w1.heap.size sl1 rs.length cap1 sl2 ps.length cap2 rs ps si ids st T W → W.ownsRow B 64 2 (.slice sp (poA rs ps top ids T).length kp) (poA rs ps top ids T).length (enCells (poA rs ps top ids T)) → Calls Try.prog 12 #[TV sl1 rs.length cap1 sl2 ps.length cap2, .int .i64 top, .slice sp (poA rs ps top ids T).length kp] W fun e w' => e = .returned (.bool (planB rs ps top (poA rs ps top ids T))) ∧ Below W.heap.size W w') := fun W B sp kp h o => ipr_any sl1 cap1 sl2 cap2 sp kp rs ps (poA rs ps top ids T) top W (by omega) (by omega) h.s h.p hwp (pls W B sp kp o) (own_cap8 o)
  clear CL pls
  by_cases hids : ¬ IdsR rs ps ids
  · rw [B_no hids] at IR
    clear LI LT IC SO CT0 SCT PO LP PR hids PL
    generalize rs.length = rn at *
    generalize ps.length = pn at *
    generalize ids.length = inn at *
    generalize T.length = tn at *
    obtain ⟨tl, t0, t1⟩ := B2.out.cells
    go_wp2_with fail
    refine (IR.out _ B2.out).mono ?_
    rintro e w3 ⟨rfl, b3⟩
    have D3 := Lib.hid (B2.out.below b3)
    go_wp2
    go_ret
    exact ⟨rfl, D3.out.bel⟩
  have hids := Classical.not_not.1 hids
  rw [B_yes hids] at IR
  have OKN : Hid (ids.length = 0 → (fC (cnN rs ps top ids : Nat) (cnA rs ps top ids) T == -1) = decide (T.length = 0)) := fun h => by
    have : ids = [] := List.eq_nil_of_length_eq_zero h
    subst this
    exact cnf_nil hids
  have OKE0 : Hid (ids.length ≠ 0 → ((poA rs ps top ids T).length = ids.length → (fC (cnN rs ps top ids : Nat) (cnA rs ps top ids) T == -1) = planB rs ps top (poA rs ps top ids T)) ∧ (¬ (poA rs ps top ids T).length = ids.length → (fC (cnN rs ps top ids : Nat) (cnA rs ps top ids) T == -1) = false)) := fun h => by
    have hne : ids ≠ [] := fun e => h (by rw [e]; rfl)
    have := cnf_iff (top := top) (ts := T) hids hne
    exact ⟨fun g => by rw [this, decide_eq_true g]; rfl, fun g => by rw [this, decide_eq_false g]; rfl⟩
  generalize (fC (cnN rs ps top ids : Nat) (cnA rs ps top ids) T == -1) = okb at *
  generalize planB rs ps top (poA rs ps top ids T) = plb at *
  generalize hec : enCells (poA rs ps top ids T) = ecs at *
  clear hec
  generalize (poA rs ps top ids T).length = pln at *
  have CT : Hid (∀ (W : World) vs vk cs s' k' (b B' : Nat), CN b (cnN rs ps top ids : Nat) vs (cnA rs ps top ids).length vk cs W → bareC cs = cnA rs ps top ids → W.ownsRow B' 2 1 (.slice s' T.length k') T.length (valsZ T) → Calls Try.prog 8 #[CV (cnN rs ps top ids : Nat) vs (cnA rs ps top ids).length vk, .slice s' T.length k'] W fun e w' => e = .returned (.bool okb) ∧ Below W.heap.size W w') := fun W vs vk cs s' k' b B' h eb o => by
    obtain ⟨B, oc⟩ := h.own
    exact CT0.out W vs vk cs s' k' B B' oc eb o
  generalize hNN : ((cnN rs ps top ids : Nat) : Int) = N at *
  generalize hcn : (cnA rs ps top ids).length = cn at *
  generalize hxi : valsZ ids = zi at *
  generalize hxt : valsZ T = zt at *
  clear hids hwp PL CT0 hNN hcn hxi hxt
  generalize rs.length = rn at *
  generalize ps.length = pn at *
  generalize hni : ids.length = inn at *
  generalize T.length = tn at *
  clear hni
  obtain ⟨tl, t0, t1⟩ := B2.out.cells
  clear hst hpr hii hit bel
  --@a
  go_wp2_with fail
  generalize w1.alloc (.cells #[.slice sl1 rn cap1, .slice sl2 pn cap2] 26) = w2 at *
  generalize w1.heap.size = b3 at *
  refine (IR.out _ B2.out).mono ?_
  rintro e w4 ⟨rfl, bl4⟩
  have B4 := Lib.hid (B2.out.below bl4)
  clear bl4 B2 IR tl t0 t1
  --@b
  go_wp2_with fail
  have BD := Lib.hid B4.out.drew
  clear B4
  refine wp_region_held_drew (S := fun W => b3 < W.heap.size ∧ W.cell? ⟨b3, 0, none⟩ = some (.slice sl1 rn cap1) ∧ W.cell? ⟨b3, 1, none⟩ = some (.slice sl2 pn cap2)) (by kernel_rfl) ?_ (fun hHeld => ?_)
  · exact BD.out.cells
  generalize w4.drew = wd at *
  refine wpAnyH_take (i := 0) (oi := _) (v := ?_) rfl (by kernel_rfl) (by kernel_rfl) (by kernel_rfl) (fun _ _ _ h => h) (Or.inl ⟨by rfl, ?_⟩) (by assumption) ?_
  rotate_left
  · first | (intro w hSw; (try dsimp only at hSw); go_simp; done) | (intro w hSw; (try dsimp only at hSw); go_simp; with_reducible rfl)
  try simp only [Act.put, List.setIfInBounds_toArray, List.set_cons_zero, List.set_cons_succ, List.getElem_toArray, List.getElem_cons_zero]
  refine wpAnyH_take (i := 1) (oi := _) (v := ?_) rfl (by kernel_rfl) (by kernel_rfl) (by kernel_rfl) (fun _ _ _ h => h) (Or.inl ⟨by rfl, ?_⟩) (by assumption) ?_
  rotate_left
  · first | (intro w hSw; (try dsimp only at hSw); go_simp; done) | (intro w hSw; (try dsimp only at hSw); go_simp; with_reducible rfl)
  try simp only [Act.put, List.setIfInBounds_toArray, List.set_cons_zero, List.set_cons_succ, List.getElem_toArray, List.getElem_cons_succ, List.getElem_cons_zero]
  refine wpAnyH_take (i := 2) (oi := _) (v := ?_) rfl (by kernel_rfl) (by kernel_rfl) (by kernel_rfl) (fun _ _ _ h => h) (Or.inl ⟨by rfl, ?_⟩) (by assumption) ?_
  rotate_left
  · first | (intro w hSw; (try dsimp only at hSw); go_simp; done) | (intro w hSw; (try dsimp only at hSw); go_simp; with_reducible rfl)
  try simp only [Act.put, List.setIfInBounds_toArray, List.set_cons_zero, List.set_cons_succ, List.getElem_toArray, List.getElem_cons_succ, List.getElem_cons_zero]
  refine wpAnyH_ready (rs := [3, 5]) (by kernel_rfl) (by simp) ?_
  refine AllReadyH.cons rfl (fun K hK => ?_) (AllReadyH.cons rfl (fun K hK => ?_) AllReadyH.nil)
  · go_simp
    go_wp2_with (go_at_call 7; refine (LI.out _ BD.out).mono ?_; rintro e w8 ⟨s8, k8, rfl, q8, b8⟩)
    have B8 := Lib.hid (BD.out.below b8)
    have Q8 := Lib.hid q8
    clear q8 b8
    refine hK.out _ _ ?_ (fun hHeld => ?_)
    · exact B8.out.cells
    clear hK K
    refine wpAnyH_ready (rs := [4, 5]) (by kernel_rfl) (by simp) ?_
    refine AllReadyH.cons rfl (fun K hK => ?_) (AllReadyH.cons rfl (fun K hK => ?_) AllReadyH.nil)
    · go_simp
      go_wp2_with (go_at_call 6; refine (IC.out _ _ _ _ B8.out Q8.out).mono ?_; rintro e w7 ⟨vs, vk, cs, rfl, oc7, eb7, b7'⟩)
      have B7 := Lib.hid (B8.out.below b7')
      have O7 := Lib.hid (oc7.mono (Nat.zero_le _))
      have E7 := Lib.hid eb7
      clear oc7 eb7 b7'
      refine hK.out _ _ ?_ (fun hHeld => ?_)
      · exact B7.out.cells
      clear hK K
      refine wpAnyH_ready (rs := [5]) (by kernel_rfl) (by simp) ?_
      refine AllReadyH.cons rfl (fun K hK => ?_) AllReadyH.nil
      have BA := Lib.hid (B7.out.below (bA0 w7 (.cells #[.int .i64 0, .slice none 0 0] 33)))
      have XA : Hid ((w7.alloc (.cells #[.int .i64 0, .slice none 0 0] 33)).heap[w7.heap.size]? = some (.cells #[.int .i64 0, .slice none 0 0] 33)) := new_at _ _
      have FA : Hid (Fr w7 w7.heap.size (w7.alloc (.cells #[.int .i64 0, .slice none 0 0] 33))) := ⟨rfl, bA0 _ _⟩
      have BU := B7
      have OA := Lib.hid (O7.out.below (bA0 w7 (.cells #[.int .i64 0, .slice none 0 0] 33)))
      clear O7
      have O7 := OA
      clear OA
      go_simp
      refine hK.out _ _ ?_ (fun hHeld => ?_)
      · exact BA.out.cells
      clear hK K
      generalize w7.alloc (.cells #[.int .i64 0, .slice none 0 0] 33) = wa at *
      generalize w7.heap.size = b7 at *
      refine wpAnyH_ready (rs := [6]) (by kernel_rfl) (by simp) ?_
      refine AllReadyH.cons rfl (fun K hK => ?_) AllReadyH.nil
      have OS : Only b7 wa ((wa.setCell ⟨b7, 0, none⟩ (.int .i64 N)).setCell ⟨b7, 1, none⟩ (.slice vs cn vk)) := ((Only.refl b7 wa).setCell 0 _).setCell 1 _
      have BS := Lib.hid (BU.out.fr FA.out OS)
      have YS : Hid (CN b7 N vs cn vk cs ((wa.setCell ⟨b7, 0, none⟩ (.int .i64 N)).setCell ⟨b7, 1, none⟩ (.slice vs cn vk))) := ⟨⟨0, OwC.onlyB O7.out OS XA.out⟩, heap_setCell_same _ b7 1 _ 33 (.slice vs cn vk) (heap_setCell_same wa b7 0 _ 33 (.int .i64 N) XA.out)⟩
      have zl : b7 < wa.heap.size := (Array.getElem?_eq_some_iff.1 XA.out).1
      have z0 : wa.cell? ⟨b7, 0, none⟩ = some (.int .i64 0) := by simp [World.cell?, XA.out]
      have z1 : wa.cell? ⟨b7, 1, none⟩ = some (.slice none 0 0) := by simp [World.cell?, XA.out]
      have f0 : wa.frozen? ⟨b7, 0, none⟩ = false := by simp [World.frozen?, XA.out]
      have f1 : wa.frozen? ⟨b7, 1, none⟩ = false := by simp [World.frozen?, XA.out]
      clear OS
      go_simp
      refine hK.out _ _ ?_ (fun hHeld => ?_)
      · exact BS.out.cells
      clear hK K
      clear zl z0 z1 f0 f1 XA O7 FA BU
      generalize ((wa.setCell ⟨b7, 0, none⟩ (.int .i64 N)).setCell ⟨b7, 1, none⟩ (.slice vs cn vk)) = w9 at *
      refine wpAnyH_done (by kernel_rfl) ?_ _
      have BE := Lib.hid BS.out.drew
      have YE := Lib.hid YS.out.drew
      go_wp2_with fail
      refine wp_region_held_drew (S := fun W => b7 < W.heap.size ∧ W.cell? ⟨b7, 0, none⟩ = some (.int .i64 N) ∧ W.cell? ⟨b7, 1, none⟩ = some (.slice vs cn vk)) (by kernel_rfl) ?_ (fun hHeld => ?_)
      · exact YE.out.cells
      generalize w9.drew = we at *
      refine wpAnyH_take (i := 0) (oi := _) (v := ?_) rfl (by kernel_rfl) (by kernel_rfl) (by kernel_rfl) (fun _ _ _ h => h) (Or.inl ⟨by rfl, ?_⟩) (by assumption) ?_
      rotate_left
      · first | (intro w hSw; (try dsimp only at hSw); go_simp; done) | (intro w hSw; (try dsimp only at hSw); go_simp; with_reducible rfl)
      try simp only [Act.put, List.setIfInBounds_toArray, List.set_cons_zero, List.set_cons_succ, List.getElem_toArray, List.getElem_cons_zero]
      refine wpAnyH_take (i := 1) (oi := _) (v := ?_) rfl (by kernel_rfl) (by kernel_rfl) (by kernel_rfl) (fun _ _ _ h => h) (Or.inl ⟨by rfl, ?_⟩) (by assumption) ?_
      rotate_left
      · first | (intro w hSw; (try dsimp only at hSw); go_simp; done) | (intro w hSw; (try dsimp only at hSw); go_simp; with_reducible rfl)
      try simp only [Act.put, List.setIfInBounds_toArray, List.set_cons_zero, List.set_cons_succ, List.getElem_toArray, List.getElem_cons_succ, List.getElem_cons_zero]
      refine wpAnyH_ready (rs := [2]) (by kernel_rfl) (by simp) ?_
      refine AllReadyH.cons rfl (fun K hK => ?_) AllReadyH.nil
      go_simp
      go_wp2_with (go_at_call 7; refine (LT.out _ BE.out).mono ?_; rintro e w10 ⟨s10, k10, rfl, q10, b10⟩)
      have BF := Lib.hid (BE.out.below b10)
      have YF := Lib.hid (YE.out.below b10)
      have QF := Lib.hid q10
      clear q10 b10
      refine hK.out _ _ ?_ (fun hHeld => ?_)
      · exact YF.out.cells
      clear hK K
      refine wpAnyH_ready (rs := [3]) (by kernel_rfl) (by simp) ?_
      refine AllReadyH.cons rfl (fun K hK => ?_) AllReadyH.nil
      go_simp
      go_wp2_with (go_at_call 8; refine (CT.out _ _ _ _ _ _ _ _ YF.out E7.out QF.out).mono ?_; rintro e w11 ⟨rfl, b11⟩)
      have BG := Lib.hid (BF.out.below b11)
      have YG := Lib.hid (YF.out.below b11)
      clear b11
      refine hK.out _ _ ?_ (fun hHeld => ?_)
      · exact YG.out.cells
      clear hK K
      refine wpAnyH_take (i := 4) (oi := _) (v := ?_) rfl (by kernel_rfl) (by kernel_rfl) (by kernel_rfl) (fun _ _ _ h => h) (Or.inl ⟨by rfl, ?_⟩) (by assumption) ?_
      rotate_left
      · first | (intro w hSw; (try dsimp only at hSw); go_simp; done) | (intro w hSw; (try dsimp only at hSw); go_simp; with_reducible rfl)
      try simp only [Act.put, List.setIfInBounds_toArray, List.set_cons_zero, List.set_cons_succ, List.getElem_toArray, List.getElem_cons_succ, List.getElem_cons_zero]
      refine wpAnyH_done (by kernel_rfl) ?_ _
      have BH := Lib.hid BG.out.drew
      have YH := Lib.hid YG.out.drew
      go_wp2_with fail
      refine wp_region_held_drew (S := fun W => (b3 < W.heap.size ∧ W.cell? ⟨b3, 0, none⟩ = some (.slice sl1 rn cap1) ∧ W.cell? ⟨b3, 1, none⟩ = some (.slice sl2 pn cap2)) ∧ b7 < W.heap.size ∧ W.cell? ⟨b7, 0, none⟩ = some (.int .i64 N) ∧ W.cell? ⟨b7, 1, none⟩ = some (.slice vs cn vk)) (by kernel_rfl) ?_ (fun hHeld => ?_)
      · exact ⟨BH.out.cells, YH.out.cells⟩
      generalize w11.drew = wh at *
      refine wpAnyH_take (i := 0) (oi := _) (v := ?_) rfl (by kernel_rfl) (by kernel_rfl) (by kernel_rfl) (fun _ _ _ h => h) (Or.inl ⟨by rfl, ?_⟩) (by assumption) ?_
      rotate_left
      · first | (intro w hSw; (try dsimp only at hSw); go_simp; done) | (intro w hSw; (try dsimp only at hSw); go_simp; with_reducible rfl)
      try simp only [Act.put, List.setIfInBounds_toArray, List.set_cons_zero, List.set_cons_succ, List.getElem_toArray, List.getElem_cons_zero]
      refine wpAnyH_take (i := 1) (oi := _) (v := ?_) rfl (by kernel_rfl) (by kernel_rfl) (by kernel_rfl) (fun _ _ _ h => h) (Or.inl ⟨by rfl, ?_⟩) (by assumption) ?_
      rotate_left
      · first | (intro w hSw; (try dsimp only at hSw); go_simp; done) | (intro w hSw; (try dsimp only at hSw); go_simp; with_reducible rfl)
      try simp only [Act.put, List.setIfInBounds_toArray, List.set_cons_zero, List.set_cons_succ, List.getElem_toArray, List.getElem_cons_succ, List.getElem_cons_zero]
      refine wpAnyH_take (i := 2) (oi := _) (v := ?_) rfl (by kernel_rfl) (by kernel_rfl) (by kernel_rfl) (fun _ _ _ h => h) (Or.inl ⟨by rfl, ?_⟩) (by assumption) ?_
      rotate_left
      · first | (intro w hSw; (try dsimp only at hSw); go_simp; done) | (intro w hSw; (try dsimp only at hSw); go_simp; with_reducible rfl)
      try simp only [Act.put, List.setIfInBounds_toArray, List.set_cons_zero, List.set_cons_succ, List.getElem_toArray, List.getElem_cons_succ, List.getElem_cons_zero]
      refine wpAnyH_take (i := 3) (oi := _) (v := ?_) rfl (by kernel_rfl) (by kernel_rfl) (by kernel_rfl) (fun _ _ _ h => h) (Or.inl ⟨by rfl, ?_⟩) (by assumption) ?_
      rotate_left
      · first | (intro w hSw; (try dsimp only at hSw); go_simp; done) | (intro w hSw; (try dsimp only at hSw); go_simp; with_reducible rfl)
      try simp only [Act.put, List.setIfInBounds_toArray, List.set_cons_zero, List.set_cons_succ, List.getElem_toArray, List.getElem_cons_succ, List.getElem_cons_zero]
      refine wpAnyH_take (i := 4) (oi := _) (v := ?_) rfl (by kernel_rfl) (by kernel_rfl) (by kernel_rfl) (fun _ _ _ h => h) (Or.inl ⟨by rfl, ?_⟩) (by assumption) ?_
      rotate_left
      · first | (intro w hSw; (try dsimp only at hSw); go_simp; done) | (intro w hSw; (try dsimp only at hSw); go_simp; with_reducible rfl)
      try simp only [Act.put, List.setIfInBounds_toArray, List.set_cons_zero, List.set_cons_succ, List.getElem_toArray, List.getElem_cons_succ, List.getElem_cons_zero]
      refine wpAnyH_ready (rs := [5]) (by kernel_rfl) (by simp) ?_
      refine AllReadyH.cons rfl (fun K hK => ?_) AllReadyH.nil
      go_simp
      go_wp2_with (go_at_call 9; refine (SO.out _ BH.out).mono ?_; rintro e w12 ⟨vs12, vk12, cs12, rfl, oc12, eb12, b12⟩)
      have hfd : ∀ w : World, (Instr.field 33 (.agg #[.int .i64 N, .slice vs12 cn vk12]) 0).run Try.prog w = .ok (.int .i64 N) w := fun _ => by kernel_rfl
      have BI := Lib.hid (BH.out.below b12)
      have YI := Lib.hid (YH.out.below b12)
      clear oc12 eb12 b12
      refine hK.out _ _ ?_ (fun hHeld => ?_)
      · exact ⟨BI.out.cells, YI.out.cells⟩
      clear hK K
      refine wpAnyH_take (i := 6) (oi := _) (v := ?_) rfl (by kernel_rfl) (by kernel_rfl) (by kernel_rfl) (fun _ _ _ h => h) (Or.inl ⟨by rfl, ?_⟩) (by assumption) ?_
      rotate_left
      · first | (intro w hSw; (try dsimp only at hSw); go_simp; done) | (intro w hSw; (try dsimp only at hSw); go_simp; with_reducible rfl)
      try simp only [Act.put, List.setIfInBounds_toArray, List.set_cons_zero, List.set_cons_succ, List.getElem_toArray, List.getElem_cons_succ, List.getElem_cons_zero]
      refine wpAnyH_take (i := 7) (oi := _) (v := ?_) rfl (by kernel_rfl) (by kernel_rfl) (by kernel_rfl) (fun _ _ _ h => h) (Or.inl ⟨by rfl, ?_⟩) (by assumption) ?_
      rotate_left
      · first | (intro w hSw; (try dsimp only at hSw); go_simp; done) | (intro w hSw; (try dsimp only at hSw); go_simp; with_reducible rfl)
      try simp only [Act.put, List.setIfInBounds_toArray, List.set_cons_zero, List.set_cons_succ, List.getElem_toArray, List.getElem_cons_succ, List.getElem_cons_zero]
      refine wpAnyH_take (i := 8) (oi := _) (v := ?_) rfl (by kernel_rfl) (by kernel_rfl) (by kernel_rfl) (fun _ _ _ h => h) (Or.inl ⟨by rfl, ?_⟩) (by assumption) ?_
      rotate_left
      · first | (intro w hSw; (try dsimp only at hSw); go_simp; done) | (intro w hSw; (try dsimp only at hSw); go_simp; with_reducible rfl)
      try simp only [Act.put, List.setIfInBounds_toArray, List.set_cons_zero, List.set_cons_succ, List.getElem_toArray, List.getElem_cons_succ, List.getElem_cons_zero]
      refine wpAnyH_take (i := 9) (oi := _) (v := ?_) rfl (by kernel_rfl) (by kernel_rfl) (by kernel_rfl) (fun _ _ _ h => h) (Or.inl ⟨by rfl, ?_⟩) (by assumption) ?_
      rotate_left
      · first | (intro w hSw; (try dsimp only at hSw); go_simp; done) | (intro w hSw; (try dsimp only at hSw); go_simp; with_reducible rfl)
      try simp only [Act.put, List.setIfInBounds_toArray, List.set_cons_zero, List.set_cons_succ, List.getElem_toArray, List.getElem_cons_succ, List.getElem_cons_zero]
      refine wpAnyH_take (i := 10) (oi := _) (v := ?_) rfl (by kernel_rfl) (by kernel_rfl) (by kernel_rfl) (fun _ _ _ h => h) (Or.inl ⟨by rfl, ?_⟩) (by assumption) ?_
      rotate_left
      · first | (intro w hSw; (try dsimp only at hSw); go_simp; done) | (intro w hSw; (try dsimp only at hSw); go_simp; with_reducible rfl)
      try simp only [Act.put, List.setIfInBounds_toArray, List.set_cons_zero, List.set_cons_succ, List.getElem_toArray, List.getElem_cons_succ, List.getElem_cons_zero]
      refine wpAnyH_take (i := 11) (oi := _) (v := ?_) rfl (by kernel_rfl) (by kernel_rfl) (by kernel_rfl) (fun _ _ _ h => h) (Or.inl ⟨by rfl, ?_⟩) (by assumption) ?_
      rotate_left
      · first | (intro w hSw; (try dsimp only at hSw); go_simp; done) | (intro w hSw; (try dsimp only at hSw); go_simp; with_reducible rfl)
      try simp only [Act.put, List.setIfInBounds_toArray, List.set_cons_zero, List.set_cons_succ, List.getElem_toArray, List.getElem_cons_succ, List.getElem_cons_zero]
      refine wpAnyH_take (i := 12) (oi := _) (v := ?_) rfl (by kernel_rfl) (by kernel_rfl) (by kernel_rfl) (fun _ _ _ h => h) (Or.inl ⟨by rfl, ?_⟩) (by assumption) ?_
      rotate_left
      · first | (intro w hSw; (try dsimp only at hSw); go_simp; done) | (intro w hSw; (try dsimp only at hSw); go_simp; with_reducible rfl)
      try simp only [Act.put, List.setIfInBounds_toArray, List.set_cons_zero, List.set_cons_succ, List.getElem_toArray, List.getElem_cons_succ, List.getElem_cons_zero]
      refine wpAnyH_take (i := 14) (oi := _) (v := ?_) rfl (by kernel_rfl) (by kernel_rfl) (by kernel_rfl) (fun _ _ _ h => h) (Or.inl ⟨by rfl, ?_⟩) (by assumption) ?_
      rotate_left
      · first | (intro w hSw; (try dsimp only at hSw); go_simp; done) | (intro w hSw; (try dsimp only at hSw); go_simp; with_reducible rfl)
      try simp only [Act.put, List.setIfInBounds_toArray, List.set_cons_zero, List.set_cons_succ, List.getElem_toArray, List.getElem_cons_succ, List.getElem_cons_zero]
      clear hfd
      refine wpAnyH_ready (rs := [13]) (by kernel_rfl) (by simp) ?_
      refine AllReadyH.cons rfl (fun K hK => ?_) AllReadyH.nil
      go_simp
      go_wp2_with (go_at_call 9; refine (SO.out _ BI.out).mono ?_; rintro e w13 ⟨vs13, vk13, cs13, rfl, oc13, eb13, b13⟩)
      have BJ := Lib.hid (BI.out.below b13)
      have YJ := Lib.hid (YI.out.below b13)
      have OJ := Lib.hid oc13
      have EJ := Lib.hid eb13
      clear oc13 eb13 b13
      refine hK.out _ _ ?_ (fun hHeld => ?_)
      · exact ⟨BJ.out.cells, YJ.out.cells⟩
      clear hK K
      refine wpAnyH_ready (rs := [15]) (by kernel_rfl) (by simp) ?_
      refine AllReadyH.cons rfl (fun K hK => ?_) AllReadyH.nil
      go_simp
      go_wp2_with (go_at_call 10; refine (SCT.out _ _ _ _ _ BJ.out OJ.out EJ.out).mono ?_; rintro e w14 ⟨rfl, b14⟩)
      have BK := Lib.hid (BJ.out.below b14)
      have YK := Lib.hid (YJ.out.below b14)
      clear b14
      refine hK.out _ _ ?_ (fun hHeld => ?_)
      · exact ⟨BK.out.cells, YK.out.cells⟩
      clear hK K
      refine wpAnyH_take (i := 16) (oi := _) (v := ?_) rfl (by kernel_rfl) (by kernel_rfl) (by kernel_rfl) (fun _ _ _ h => h) (Or.inl ⟨by rfl, ?_⟩) (by assumption) ?_
      rotate_left
      · first | (intro w hSw; (try dsimp only at hSw); go_simp; done) | (intro w hSw; (try dsimp only at hSw); go_simp; with_reducible rfl)
      try simp only [Act.put, List.setIfInBounds_toArray, List.set_cons_zero, List.set_cons_succ, List.getElem_toArray, List.getElem_cons_succ, List.getElem_cons_zero]
      refine wpAnyH_take (i := 17) (oi := _) (v := ?_) rfl (by kernel_rfl) (by kernel_rfl) (by kernel_rfl) (fun _ _ _ h => h) (Or.inl ⟨by rfl, ?_⟩) (by assumption) ?_
      rotate_left
      · first | (intro w hSw; (try dsimp only at hSw); go_simp; done) | (intro w hSw; (try dsimp only at hSw); go_simp; with_reducible rfl)
      try simp only [Act.put, List.setIfInBounds_toArray, List.set_cons_zero, List.set_cons_succ, List.getElem_toArray, List.getElem_cons_succ, List.getElem_cons_zero]
      refine wpAnyH_done (by kernel_rfl) ?_ _
      have BL := Lib.hid BK.out.drew
      go_wp2_with fail
      refine wp_region_held_drew (S := fun W => b3 < W.heap.size ∧ W.cell? ⟨b3, 0, none⟩ = some (.slice sl1 rn cap1) ∧ W.cell? ⟨b3, 1, none⟩ = some (.slice sl2 pn cap2)) (by kernel_rfl) ?_ (fun hHeld => ?_)
      · exact BL.out.cells
      generalize w14.drew = wl at *
      refine wpAnyH_take (i := 0) (oi := _) (v := ?_) rfl (by kernel_rfl) (by kernel_rfl) (by kernel_rfl) (fun _ _ _ h => h) (Or.inl ⟨by rfl, ?_⟩) (by assumption) ?_
      rotate_left
      · first | (intro w hSw; (try dsimp only at hSw); go_simp; done) | (intro w hSw; (try dsimp only at hSw); go_simp; with_reducible rfl)
      try simp only [Act.put, List.setIfInBounds_toArray, List.set_cons_zero, List.set_cons_succ, List.getElem_toArray, List.getElem_cons_zero]
      refine wpAnyH_take (i := 1) (oi := _) (v := ?_) rfl (by kernel_rfl) (by kernel_rfl) (by kernel_rfl) (fun _ _ _ h => h) (Or.inl ⟨by rfl, ?_⟩) (by assumption) ?_
      rotate_left
      · first | (intro w hSw; (try dsimp only at hSw); go_simp; done) | (intro w hSw; (try dsimp only at hSw); go_simp; with_reducible rfl)
      try simp only [Act.put, List.setIfInBounds_toArray, List.set_cons_zero, List.set_cons_succ, List.getElem_toArray, List.getElem_cons_succ, List.getElem_cons_zero]
      refine wpAnyH_take (i := 2) (oi := _) (v := ?_) rfl (by kernel_rfl) (by kernel_rfl) (by kernel_rfl) (fun _ _ _ h => h) (Or.inl ⟨by rfl, ?_⟩) (by assumption) ?_
      rotate_left
      · first | (intro w hSw; (try dsimp only at hSw); go_simp; done) | (intro w hSw; (try dsimp only at hSw); go_simp; with_reducible rfl)
      try simp only [Act.put, List.setIfInBounds_toArray, List.set_cons_zero, List.set_cons_succ, List.getElem_toArray, List.getElem_cons_succ, List.getElem_cons_zero]
      refine wpAnyH_take (i := 4) (oi := _) (v := ?_) rfl (by kernel_rfl) (by kernel_rfl) (by kernel_rfl) (fun _ _ _ h => h) (Or.inl ⟨by rfl, ?_⟩) (by assumption) ?_
      rotate_left
      · first | (intro w hSw; (try dsimp only at hSw); go_simp; done) | (intro w hSw; (try dsimp only at hSw); go_simp; with_reducible rfl)
      try simp only [Act.put, List.setIfInBounds_toArray, List.set_cons_zero, List.set_cons_succ, List.getElem_toArray, List.getElem_cons_succ, List.getElem_cons_zero]
      refine wpAnyH_ready (rs := [3]) (by kernel_rfl) (by simp) ?_
      refine AllReadyH.cons rfl (fun K hK => ?_) AllReadyH.nil
      go_simp
      go_wp2_with (go_at_call 7; refine (LI.out _ BL.out).mono ?_; rintro e w15 ⟨s15, k15, rfl, q15, b15⟩)
      have BM := Lib.hid (BL.out.below b15)
      have QM := Lib.hid q15
      clear q15 b15
      refine hK.out _ _ ?_ (fun hHeld => ?_)
      · exact BM.out.cells
      clear hK K
      refine wpAnyH_ready (rs := [5]) (by kernel_rfl) (by simp) ?_
      refine AllReadyH.cons rfl (fun K hK => ?_) AllReadyH.nil
      go_simp
      go_wp2_with (go_at_call 7; refine (LT.out _ BM.out).mono ?_; rintro e w16 ⟨s16, k16, rfl, q16, b16⟩)
      have BN := Lib.hid (BM.out.below b16)
      have QN := Lib.hid (own_below QM.out b16)
      have QT := Lib.hid q16
      clear q16 b16
      refine hK.out _ _ ?_ (fun hHeld => ?_)
      · exact BN.out.cells
      clear hK K
      refine wpAnyH_ready (rs := [6]) (by kernel_rfl) (by simp) ?_
      refine AllReadyH.cons rfl (fun K hK => ?_) AllReadyH.nil
      go_simp
      go_wp2_with (go_at_call 11; refine (PO.out _ _ _ _ _ _ _ BN.out QN.out QT.out).mono ?_; rintro e w17 ⟨sp, kp, rfl, qp, b17⟩)
      have BO := Lib.hid (BN.out.below b17)
      have QP := Lib.hid qp
      clear qp b17
      refine hK.out _ _ ?_ (fun hHeld => ?_)
      · exact BO.out.cells
      clear hK K
      refine wpAnyH_take (i := 7) (oi := _) (v := ?_) rfl (by kernel_rfl) (by kernel_rfl) (by kernel_rfl) (fun _ _ _ h => h) (Or.inl ⟨by rfl, ?_⟩) (by assumption) ?_
      rotate_left
      · first | (intro w hSw; (try dsimp only at hSw); go_simp; done) | (intro w hSw; (try dsimp only at hSw); go_simp; with_reducible rfl)
      try simp only [Act.put, List.setIfInBounds_toArray, List.set_cons_zero, List.set_cons_succ, List.getElem_toArray, List.getElem_cons_succ, List.getElem_cons_zero]
      refine wpAnyH_done (by kernel_rfl) ?_ _
      by_cases h0 : inn = 0
      · have h0' : ((inn : Int) == 0) = true := by rw [h0]; rfl
        have hok := OKN.out h0
        by_cases ht0 : tn = 0
        · have ht0' : ((tn : Int) == 0) = true := by rw [ht0]; rfl
          rw [decide_eq_true ht0] at hok
          subst hok
          go_wp2
          go_ret
          exact ⟨rfl, BO.out.bel⟩
        · have ht0' : ((tn : Int) == 0) = false := beq_eq_false_iff_ne.2 (by omega)
          rw [decide_eq_false ht0] at hok
          subst hok
          go_wp2
          go_ret
          exact ⟨rfl, BO.out.bel⟩
      · have h0' : ((inn : Int) == 0) = false := beq_eq_false_iff_ne.2 (by omega)
        have OKE := Lib.hid (OKE0.out h0)
        clear OKN OKE0
        have BQ := Lib.hid BO.out.drew
        have QQ : Hid (w17.drew.ownsRow _ 64 2 (.slice sp pln kp) pln ecs) := own_below QP.out (Below.refl _ _).drew
        by_cases heq : pln = inn
        · have hee : ((pln : Int) == (inn : Int)) = true := by rw [heq]; simp
          have hok := OKE.out.1 heq
          clear heq
          go_wp2_with fail
          refine wp_region_held_drew (S := fun W => b3 < W.heap.size ∧ W.cell? ⟨b3, 0, none⟩ = some (.slice sl1 rn cap1) ∧ W.cell? ⟨b3, 1, none⟩ = some (.slice sl2 pn cap2)) (by kernel_rfl) ?_ (fun hHeld => ?_)
          · exact BQ.out.cells
          generalize w17.drew = wq at *
          refine wpAnyH_take (i := 0) (oi := _) (v := ?_) rfl (by kernel_rfl) (by kernel_rfl) (by kernel_rfl) (fun _ _ _ h => h) (Or.inl ⟨by rfl, ?_⟩) (by assumption) ?_
          rotate_left
          · first | (intro w hSw; (try dsimp only at hSw); go_simp; done) | (intro w hSw; (try dsimp only at hSw); go_simp; with_reducible rfl)
          try simp only [Act.put, List.setIfInBounds_toArray, List.set_cons_zero, List.set_cons_succ, List.getElem_toArray, List.getElem_cons_zero]
          refine wpAnyH_take (i := 1) (oi := _) (v := ?_) rfl (by kernel_rfl) (by kernel_rfl) (by kernel_rfl) (fun _ _ _ h => h) (Or.inl ⟨by rfl, ?_⟩) (by assumption) ?_
          rotate_left
          · first | (intro w hSw; (try dsimp only at hSw); go_simp; done) | (intro w hSw; (try dsimp only at hSw); go_simp; with_reducible rfl)
          try simp only [Act.put, List.setIfInBounds_toArray, List.set_cons_zero, List.set_cons_succ, List.getElem_toArray, List.getElem_cons_succ, List.getElem_cons_zero]
          refine wpAnyH_take (i := 2) (oi := _) (v := ?_) rfl (by kernel_rfl) (by kernel_rfl) (by kernel_rfl) (fun _ _ _ h => h) (Or.inl ⟨by rfl, ?_⟩) (by assumption) ?_
          rotate_left
          · first | (intro w hSw; (try dsimp only at hSw); go_simp; done) | (intro w hSw; (try dsimp only at hSw); go_simp; with_reducible rfl)
          try simp only [Act.put, List.setIfInBounds_toArray, List.set_cons_zero, List.set_cons_succ, List.getElem_toArray, List.getElem_cons_succ, List.getElem_cons_zero]
          refine wpAnyH_take (i := 3) (oi := _) (v := ?_) rfl (by kernel_rfl) (by kernel_rfl) (by kernel_rfl) (fun _ _ _ h => h) (Or.inl ⟨by rfl, ?_⟩) (by assumption) ?_
          rotate_left
          · first | (intro w hSw; (try dsimp only at hSw); go_simp; done) | (intro w hSw; (try dsimp only at hSw); go_simp; with_reducible rfl)
          try simp only [Act.put, List.setIfInBounds_toArray, List.set_cons_zero, List.set_cons_succ, List.getElem_toArray, List.getElem_cons_succ, List.getElem_cons_zero]
          refine wpAnyH_take (i := 4) (oi := _) (v := ?_) rfl (by kernel_rfl) (by kernel_rfl) (by kernel_rfl) (fun _ _ _ h => h) (Or.inl ⟨by rfl, ?_⟩) (by assumption) ?_
          rotate_left
          · first | (intro w hSw; (try dsimp only at hSw); go_simp; done) | (intro w hSw; (try dsimp only at hSw); go_simp; with_reducible rfl)
          try simp only [Act.put, List.setIfInBounds_toArray, List.set_cons_zero, List.set_cons_succ, List.getElem_toArray, List.getElem_cons_succ, List.getElem_cons_zero]
          refine wpAnyH_take (i := 5) (oi := _) (v := ?_) rfl (by kernel_rfl) (by kernel_rfl) (by kernel_rfl) (fun _ _ _ h => h) (Or.inl ⟨by rfl, ?_⟩) (by assumption) ?_
          rotate_left
          · first | (intro w hSw; (try dsimp only at hSw); go_simp; done) | (intro w hSw; (try dsimp only at hSw); go_simp; with_reducible rfl)
          try simp only [Act.put, List.setIfInBounds_toArray, List.set_cons_zero, List.set_cons_succ, List.getElem_toArray, List.getElem_cons_succ, List.getElem_cons_zero]
          refine wpAnyH_take (i := 6) (oi := _) (v := ?_) rfl (by kernel_rfl) (by kernel_rfl) (by kernel_rfl) (fun _ _ _ h => h) (Or.inl ⟨by rfl, ?_⟩) (by assumption) ?_
          rotate_left
          · first | (intro w hSw; (try dsimp only at hSw); go_simp; done) | (intro w hSw; (try dsimp only at hSw); go_simp; with_reducible rfl)
          try simp only [Act.put, List.setIfInBounds_toArray, List.set_cons_zero, List.set_cons_succ, List.getElem_toArray, List.getElem_cons_succ, List.getElem_cons_zero]
          refine wpAnyH_take (i := 7) (oi := _) (v := ?_) rfl (by kernel_rfl) (by kernel_rfl) (by kernel_rfl) (fun _ _ _ h => h) (Or.inl ⟨by rfl, ?_⟩) (by assumption) ?_
          rotate_left
          · first | (intro w hSw; (try dsimp only at hSw); go_simp; done) | (intro w hSw; (try dsimp only at hSw); go_simp; with_reducible rfl)
          try simp only [Act.put, List.setIfInBounds_toArray, List.set_cons_zero, List.set_cons_succ, List.getElem_toArray, List.getElem_cons_succ, List.getElem_cons_zero]
          refine wpAnyH_take (i := 8) (oi := _) (v := ?_) rfl (by kernel_rfl) (by kernel_rfl) (by kernel_rfl) (fun _ _ _ h => h) (Or.inl ⟨by rfl, ?_⟩) (by assumption) ?_
          rotate_left
          · first | (intro w hSw; (try dsimp only at hSw); go_simp; done) | (intro w hSw; (try dsimp only at hSw); go_simp; with_reducible rfl)
          try simp only [Act.put, List.setIfInBounds_toArray, List.set_cons_zero, List.set_cons_succ, List.getElem_toArray, List.getElem_cons_succ, List.getElem_cons_zero]
          refine wpAnyH_take (i := 9) (oi := _) (v := ?_) rfl (by kernel_rfl) (by kernel_rfl) (by kernel_rfl) (fun _ _ _ h => h) (Or.inl ⟨by rfl, ?_⟩) (by assumption) ?_
          rotate_left
          · first | (intro w hSw; (try dsimp only at hSw); go_simp; done) | (intro w hSw; (try dsimp only at hSw); go_simp; with_reducible rfl)
          try simp only [Act.put, List.setIfInBounds_toArray, List.set_cons_zero, List.set_cons_succ, List.getElem_toArray, List.getElem_cons_succ, List.getElem_cons_zero]
          refine wpAnyH_ready (rs := [10]) (by kernel_rfl) (by simp) ?_
          refine AllReadyH.cons rfl (fun K hK => ?_) AllReadyH.nil
          go_simp
          go_wp2_with (go_at_call 13; refine (LP.out _ _ _ _ QQ.out).mono ?_; rintro e w18 ⟨s18, k18, rfl, q18, b18⟩)
          have BR := Lib.hid (BQ.out.below b18)
          have QR := Lib.hid q18
          clear q18 b18
          refine hK.out _ _ ?_ (fun hHeld => ?_)
          · exact BR.out.cells
          clear hK K
          refine wpAnyH_ready (rs := [11]) (by kernel_rfl) (by simp) ?_
          refine AllReadyH.cons rfl (fun K hK => ?_) AllReadyH.nil
          go_simp
          go_wp2_with (go_at_call 12; refine (PR.out _ _ _ _ BR.out QR.out).mono ?_; rintro e w19 ⟨rfl, b19⟩)
          have BS9 := Lib.hid (BR.out.below b19)
          clear b19
          refine hK.out _ _ ?_ (fun hHeld => ?_)
          · exact BS9.out.cells
          clear hK K
          refine wpAnyH_take (i := 12) (oi := _) (v := ?_) rfl (by kernel_rfl) (by kernel_rfl) (by kernel_rfl) (fun _ _ _ h => h) (Or.inl ⟨by rfl, ?_⟩) (by assumption) ?_
          rotate_left
          · first | (intro w hSw; (try dsimp only at hSw); go_simp; done) | (intro w hSw; (try dsimp only at hSw); go_simp; with_reducible rfl)
          try simp only [Act.put, List.setIfInBounds_toArray, List.set_cons_zero, List.set_cons_succ, List.getElem_toArray, List.getElem_cons_succ, List.getElem_cons_zero]
          refine wpAnyH_take (i := 13) (oi := _) (v := ?_) rfl (by kernel_rfl) (by kernel_rfl) (by kernel_rfl) (fun _ _ _ h => h) (Or.inl ⟨by rfl, ?_⟩) (by assumption) ?_
          rotate_left
          · first | (intro w hSw; (try dsimp only at hSw); go_simp; done) | (intro w hSw; (try dsimp only at hSw); go_simp; with_reducible rfl)
          try simp only [Act.put, List.setIfInBounds_toArray, List.set_cons_zero, List.set_cons_succ, List.getElem_toArray, List.getElem_cons_succ, List.getElem_cons_zero]
          refine wpAnyH_take (i := 14) (oi := _) (v := ?_) rfl (by kernel_rfl) (by kernel_rfl) (by kernel_rfl) (fun _ _ _ h => h) (Or.inl ⟨by rfl, ?_⟩) (by assumption) ?_
          rotate_left
          · first | (intro w hSw; (try dsimp only at hSw); go_simp; done) | (intro w hSw; (try dsimp only at hSw); go_simp; with_reducible rfl)
          try simp only [Act.put, List.setIfInBounds_toArray, List.set_cons_zero, List.set_cons_succ, List.getElem_toArray, List.getElem_cons_succ, List.getElem_cons_zero]
          refine wpAnyH_done (by kernel_rfl) ?_ _
          go_wp2
          go_ret
          exact ⟨by first | rfl | (rw [hok]; simp), BS9.out.bel⟩
        · have hee : ((pln : Int) == (inn : Int)) = false := beq_eq_false_iff_ne.2 (by omega)
          have hok := OKE.out.2 heq
          go_wp2_with fail
          refine wp_region_held_drew (S := fun W => b3 < W.heap.size ∧ W.cell? ⟨b3, 0, none⟩ = some (.slice sl1 rn cap1) ∧ W.cell? ⟨b3, 1, none⟩ = some (.slice sl2 pn cap2)) (by kernel_rfl) ?_ (fun hHeld => ?_)
          · exact BQ.out.cells
          generalize w17.drew = wq at *
          refine wpAnyH_take (i := 0) (oi := _) (v := ?_) rfl (by kernel_rfl) (by kernel_rfl) (by kernel_rfl) (fun _ _ _ h => h) (Or.inl ⟨by rfl, ?_⟩) (by assumption) ?_
          rotate_left
          · first | (intro w hSw; (try dsimp only at hSw); go_simp; done) | (intro w hSw; (try dsimp only at hSw); go_simp; with_reducible rfl)
          try simp only [Act.put, List.setIfInBounds_toArray, List.set_cons_zero, List.set_cons_succ, List.getElem_toArray, List.getElem_cons_zero]
          refine wpAnyH_take (i := 1) (oi := _) (v := ?_) rfl (by kernel_rfl) (by kernel_rfl) (by kernel_rfl) (fun _ _ _ h => h) (Or.inl ⟨by rfl, ?_⟩) (by assumption) ?_
          rotate_left
          · first | (intro w hSw; (try dsimp only at hSw); go_simp; done) | (intro w hSw; (try dsimp only at hSw); go_simp; with_reducible rfl)
          try simp only [Act.put, List.setIfInBounds_toArray, List.set_cons_zero, List.set_cons_succ, List.getElem_toArray, List.getElem_cons_succ, List.getElem_cons_zero]
          refine wpAnyH_take (i := 2) (oi := _) (v := ?_) rfl (by kernel_rfl) (by kernel_rfl) (by kernel_rfl) (fun _ _ _ h => h) (Or.inl ⟨by rfl, ?_⟩) (by assumption) ?_
          rotate_left
          · first | (intro w hSw; (try dsimp only at hSw); go_simp; done) | (intro w hSw; (try dsimp only at hSw); go_simp; with_reducible rfl)
          try simp only [Act.put, List.setIfInBounds_toArray, List.set_cons_zero, List.set_cons_succ, List.getElem_toArray, List.getElem_cons_succ, List.getElem_cons_zero]
          refine wpAnyH_take (i := 3) (oi := _) (v := ?_) rfl (by kernel_rfl) (by kernel_rfl) (by kernel_rfl) (fun _ _ _ h => h) (Or.inl ⟨by rfl, ?_⟩) (by assumption) ?_
          rotate_left
          · first | (intro w hSw; (try dsimp only at hSw); go_simp; done) | (intro w hSw; (try dsimp only at hSw); go_simp; with_reducible rfl)
          try simp only [Act.put, List.setIfInBounds_toArray, List.set_cons_zero, List.set_cons_succ, List.getElem_toArray, List.getElem_cons_succ, List.getElem_cons_zero]
          refine wpAnyH_take (i := 4) (oi := _) (v := ?_) rfl (by kernel_rfl) (by kernel_rfl) (by kernel_rfl) (fun _ _ _ h => h) (Or.inl ⟨by rfl, ?_⟩) (by assumption) ?_
          rotate_left
          · first | (intro w hSw; (try dsimp only at hSw); go_simp; done) | (intro w hSw; (try dsimp only at hSw); go_simp; with_reducible rfl)
          try simp only [Act.put, List.setIfInBounds_toArray, List.set_cons_zero, List.set_cons_succ, List.getElem_toArray, List.getElem_cons_succ, List.getElem_cons_zero]
          refine wpAnyH_take (i := 5) (oi := _) (v := ?_) rfl (by kernel_rfl) (by kernel_rfl) (by kernel_rfl) (fun _ _ _ h => h) (Or.inl ⟨by rfl, ?_⟩) (by assumption) ?_
          rotate_left
          · first | (intro w hSw; (try dsimp only at hSw); go_simp; done) | (intro w hSw; (try dsimp only at hSw); go_simp; with_reducible rfl)
          try simp only [Act.put, List.setIfInBounds_toArray, List.set_cons_zero, List.set_cons_succ, List.getElem_toArray, List.getElem_cons_succ, List.getElem_cons_zero]
          refine wpAnyH_take (i := 6) (oi := _) (v := ?_) rfl (by kernel_rfl) (by kernel_rfl) (by kernel_rfl) (fun _ _ _ h => h) (Or.inl ⟨by rfl, ?_⟩) (by assumption) ?_
          rotate_left
          · first | (intro w hSw; (try dsimp only at hSw); go_simp; done) | (intro w hSw; (try dsimp only at hSw); go_simp; with_reducible rfl)
          try simp only [Act.put, List.setIfInBounds_toArray, List.set_cons_zero, List.set_cons_succ, List.getElem_toArray, List.getElem_cons_succ, List.getElem_cons_zero]
          refine wpAnyH_take (i := 7) (oi := _) (v := undef) rfl (by kernel_rfl) (by kernel_rfl) (by kernel_rfl) (fun _ _ _ h => h) (Or.inr ⟨by rfl, rfl⟩) (by assumption) ?_
          try simp only [Act.put, List.setIfInBounds_toArray, List.set_cons_zero, List.set_cons_succ, List.getElem_toArray, List.getElem_cons_succ, List.getElem_cons_zero]
          refine wpAnyH_take (i := 8) (oi := _) (v := undef) rfl (by kernel_rfl) (by kernel_rfl) (by kernel_rfl) (fun _ _ _ h => h) (Or.inr ⟨by rfl, rfl⟩) (by assumption) ?_
          try simp only [Act.put, List.setIfInBounds_toArray, List.set_cons_zero, List.set_cons_succ, List.getElem_toArray, List.getElem_cons_succ, List.getElem_cons_zero]
          refine wpAnyH_take (i := 9) (oi := _) (v := undef) rfl (by kernel_rfl) (by kernel_rfl) (by kernel_rfl) (fun _ _ _ h => h) (Or.inr ⟨by rfl, rfl⟩) (by assumption) ?_
          try simp only [Act.put, List.setIfInBounds_toArray, List.set_cons_zero, List.set_cons_succ, List.getElem_toArray, List.getElem_cons_succ, List.getElem_cons_zero]
          refine wpAnyH_take (i := 10) (oi := _) (v := undef) rfl (by kernel_rfl) (by kernel_rfl) (by kernel_rfl) (fun _ _ _ h => h) (Or.inr ⟨by rfl, rfl⟩) (by assumption) ?_
          try simp only [Act.put, List.setIfInBounds_toArray, List.set_cons_zero, List.set_cons_succ, List.getElem_toArray, List.getElem_cons_succ, List.getElem_cons_zero]
          refine wpAnyH_take (i := 11) (oi := _) (v := undef) rfl (by kernel_rfl) (by kernel_rfl) (by kernel_rfl) (fun _ _ _ h => h) (Or.inr ⟨by rfl, rfl⟩) (by assumption) ?_
          try simp only [Act.put, List.setIfInBounds_toArray, List.set_cons_zero, List.set_cons_succ, List.getElem_toArray, List.getElem_cons_succ, List.getElem_cons_zero]
          refine wpAnyH_take (i := 12) (oi := _) (v := ?_) rfl (by kernel_rfl) (by kernel_rfl) (by kernel_rfl) (fun _ _ _ h => h) (Or.inl ⟨by rfl, ?_⟩) (by assumption) ?_
          rotate_left
          · first | (intro w hSw; (try dsimp only at hSw); go_simp; done) | (intro w hSw; (try dsimp only at hSw); go_simp; with_reducible rfl)
          try simp only [Act.put, List.setIfInBounds_toArray, List.set_cons_zero, List.set_cons_succ, List.getElem_toArray, List.getElem_cons_succ, List.getElem_cons_zero]
          refine wpAnyH_take (i := 13) (oi := _) (v := ?_) rfl (by kernel_rfl) (by kernel_rfl) (by kernel_rfl) (fun _ _ _ h => h) (Or.inl ⟨by rfl, ?_⟩) (by assumption) ?_
          rotate_left
          · first | (intro w hSw; (try dsimp only at hSw); go_simp; done) | (intro w hSw; (try dsimp only at hSw); go_simp; with_reducible rfl)
          try simp only [Act.put, List.setIfInBounds_toArray, List.set_cons_zero, List.set_cons_succ, List.getElem_toArray, List.getElem_cons_succ, List.getElem_cons_zero]
          refine wpAnyH_take (i := 14) (oi := _) (v := ?_) rfl (by kernel_rfl) (by kernel_rfl) (by kernel_rfl) (fun _ _ _ h => h) (Or.inl ⟨by rfl, ?_⟩) (by assumption) ?_
          rotate_left
          · first | (intro w hSw; (try dsimp only at hSw); go_simp; done) | (intro w hSw; (try dsimp only at hSw); go_simp; with_reducible rfl)
          try simp only [Act.put, List.setIfInBounds_toArray, List.set_cons_zero, List.set_cons_succ, List.getElem_toArray, List.getElem_cons_succ, List.getElem_cons_zero]
          refine wpAnyH_done (by kernel_rfl) ?_ _
          go_wp2
          go_ret
          exact ⟨by first | rfl | (rw [hok]; simp), BQ.out.bel⟩
    · have BA := Lib.hid (B8.out.below (bA0 w8 (.cells #[.int .i64 0, .slice none 0 0] 33)))
      have XA : Hid ((w8.alloc (.cells #[.int .i64 0, .slice none 0 0] 33)).heap[w8.heap.size]? = some (.cells #[.int .i64 0, .slice none 0 0] 33)) := new_at _ _
      have FA : Hid (Fr w8 w8.heap.size (w8.alloc (.cells #[.int .i64 0, .slice none 0 0] 33))) := ⟨rfl, bA0 _ _⟩
      have BU := B8
      have QA := Lib.hid (own_below Q8.out (bA0 w8 (.cells #[.int .i64 0, .slice none 0 0] 33)))
      go_simp
      refine hK.out _ _ ?_ (fun hHeld => ?_)
      · exact BA.out.cells
      clear hK K
      generalize w8.alloc (.cells #[.int .i64 0, .slice none 0 0] 33) = wa at *
      generalize w8.heap.size = b7 at *
      refine wpAnyH_ready (rs := [4]) (by kernel_rfl) (by simp) ?_
      refine AllReadyH.cons rfl (fun K hK => ?_) AllReadyH.nil
      go_simp
      go_wp2_with (go_at_call 6; refine (IC.out _ _ _ _ BA.out QA.out).mono ?_; rintro e w7 ⟨vs, vk, cs, rfl, oc7, eb7, b7'⟩)
      have B7 := Lib.hid (BA.out.below b7')
      have XB : Hid (w7.heap[b7]? = some (.cells #[.int .i64 0, .slice none 0 0] 33)) := (b7'.block b7 (Array.getElem?_eq_some_iff.1 XA.out).1).trans XA.out
      clear XA
      have XA := XB
      clear XB
      have FB := Lib.hid (FA.out.below b7')
      clear FA
      have FA := FB
      clear FB
      have O7 := Lib.hid (oc7.mono (Nat.zero_le _))
      have E7 := Lib.hid eb7
      clear oc7 eb7 b7'
      refine hK.out _ _ ?_ (fun hHeld => ?_)
      · exact B7.out.cells
      clear hK K
      refine wpAnyH_ready (rs := [6]) (by kernel_rfl) (by simp) ?_
      refine AllReadyH.cons rfl (fun K hK => ?_) AllReadyH.nil
      have OS : Only b7 w7 ((w7.setCell ⟨b7, 0, none⟩ (.int .i64 N)).setCell ⟨b7, 1, none⟩ (.slice vs cn vk)) := ((Only.refl b7 w7).setCell 0 _).setCell 1 _
      have BS := Lib.hid (BU.out.fr FA.out OS)
      have YS : Hid (CN b7 N vs cn vk cs ((w7.setCell ⟨b7, 0, none⟩ (.int .i64 N)).setCell ⟨b7, 1, none⟩ (.slice vs cn vk))) := ⟨⟨0, OwC.onlyB O7.out OS XA.out⟩, heap_setCell_same _ b7 1 _ 33 (.slice vs cn vk) (heap_setCell_same w7 b7 0 _ 33 (.int .i64 N) XA.out)⟩
      have zl : b7 < w7.heap.size := (Array.getElem?_eq_some_iff.1 XA.out).1
      have z0 : w7.cell? ⟨b7, 0, none⟩ = some (.int .i64 0) := by simp [World.cell?, XA.out]
      have z1 : w7.cell? ⟨b7, 1, none⟩ = some (.slice none 0 0) := by simp [World.cell?, XA.out]
      have f0 : w7.frozen? ⟨b7, 0, none⟩ = false := by simp [World.frozen?, XA.out]
      have f1 : w7.frozen? ⟨b7, 1, none⟩ = false := by simp [World.frozen?, XA.out]
      clear OS
      go_simp
      refine hK.out _ _ ?_ (fun hHeld => ?_)
      · exact BS.out.cells
      clear hK K
      clear zl z0 z1 f0 f1 XA O7 FA BU
      generalize ((w7.setCell ⟨b7, 0, none⟩ (.int .i64 N)).setCell ⟨b7, 1, none⟩ (.slice vs cn vk)) = w9 at *
      refine wpAnyH_done (by kernel_rfl) ?_ _
      have BE := Lib.hid BS.out.drew
      have YE := Lib.hid YS.out.drew
      go_wp2_with fail
      refine wp_region_held_drew (S := fun W => b7 < W.heap.size ∧ W.cell? ⟨b7, 0, none⟩ = some (.int .i64 N) ∧ W.cell? ⟨b7, 1, none⟩ = some (.slice vs cn vk)) (by kernel_rfl) ?_ (fun hHeld => ?_)
      · exact YE.out.cells
      generalize w9.drew = we at *
      refine wpAnyH_take (i := 0) (oi := _) (v := ?_) rfl (by kernel_rfl) (by kernel_rfl) (by kernel_rfl) (fun _ _ _ h => h) (Or.inl ⟨by rfl, ?_⟩) (by assumption) ?_
      rotate_left
      · first | (intro w hSw; (try dsimp only at hSw); go_simp; done) | (intro w hSw; (try dsimp only at hSw); go_simp; with_reducible rfl)
      try simp only [Act.put, List.setIfInBounds_toArray, List.set_cons_zero, List.set_cons_succ, List.getElem_toArray, List.getElem_cons_zero]
      refine wpAnyH_take (i := 1) (oi := _) (v := ?_) rfl (by kernel_rfl) (by kernel_rfl) (by kernel_rfl) (fun _ _ _ h => h) (Or.inl ⟨by rfl, ?_⟩) (by assumption) ?_
      rotate_left
      · first | (intro w hSw; (try dsimp only at hSw); go_simp; done) | (intro w hSw; (try dsimp only at hSw); go_simp; with_reducible rfl)
      try simp only [Act.put, List.setIfInBounds_toArray, List.set_cons_zero, List.set_cons_succ, List.getElem_toArray, List.getElem_cons_succ, List.getElem_cons_zero]
      refine wpAnyH_ready (rs := [2]) (by kernel_rfl) (by simp) ?_
      refine AllReadyH.cons rfl (fun K hK => ?_) AllReadyH.nil
      go_simp
      go_wp2_with (go_at_call 7; refine (LT.out _ BE.out).mono ?_; rintro e w10 ⟨s10, k10, rfl, q10, b10⟩)
      have BF := Lib.hid (BE.out.below b10)
      have YF := Lib.hid (YE.out.below b10)
      have QF := Lib.hid q10
      clear q10 b10
      refine hK.out _ _ ?_ (fun hHeld => ?_)
      · exact YF.out.cells
      clear hK K
      refine wpAnyH_ready (rs := [3]) (by kernel_rfl) (by simp) ?_
      refine AllReadyH.cons rfl (fun K hK => ?_) AllReadyH.nil
      go_simp
      go_wp2_with (go_at_call 8; refine (CT.out _ _ _ _ _ _ _ _ YF.out E7.out QF.out).mono ?_; rintro e w11 ⟨rfl, b11⟩)
      have BG := Lib.hid (BF.out.below b11)
      have YG := Lib.hid (YF.out.below b11)
      clear b11
      refine hK.out _ _ ?_ (fun hHeld => ?_)
      · exact YG.out.cells
      clear hK K
      refine wpAnyH_take (i := 4) (oi := _) (v := ?_) rfl (by kernel_rfl) (by kernel_rfl) (by kernel_rfl) (fun _ _ _ h => h) (Or.inl ⟨by rfl, ?_⟩) (by assumption) ?_
      rotate_left
      · first | (intro w hSw; (try dsimp only at hSw); go_simp; done) | (intro w hSw; (try dsimp only at hSw); go_simp; with_reducible rfl)
      try simp only [Act.put, List.setIfInBounds_toArray, List.set_cons_zero, List.set_cons_succ, List.getElem_toArray, List.getElem_cons_succ, List.getElem_cons_zero]
      refine wpAnyH_done (by kernel_rfl) ?_ _
      have BH := Lib.hid BG.out.drew
      have YH := Lib.hid YG.out.drew
      go_wp2_with fail
      refine wp_region_held_drew (S := fun W => (b3 < W.heap.size ∧ W.cell? ⟨b3, 0, none⟩ = some (.slice sl1 rn cap1) ∧ W.cell? ⟨b3, 1, none⟩ = some (.slice sl2 pn cap2)) ∧ b7 < W.heap.size ∧ W.cell? ⟨b7, 0, none⟩ = some (.int .i64 N) ∧ W.cell? ⟨b7, 1, none⟩ = some (.slice vs cn vk)) (by kernel_rfl) ?_ (fun hHeld => ?_)
      · exact ⟨BH.out.cells, YH.out.cells⟩
      generalize w11.drew = wh at *
      refine wpAnyH_take (i := 0) (oi := _) (v := ?_) rfl (by kernel_rfl) (by kernel_rfl) (by kernel_rfl) (fun _ _ _ h => h) (Or.inl ⟨by rfl, ?_⟩) (by assumption) ?_
      rotate_left
      · first | (intro w hSw; (try dsimp only at hSw); go_simp; done) | (intro w hSw; (try dsimp only at hSw); go_simp; with_reducible rfl)
      try simp only [Act.put, List.setIfInBounds_toArray, List.set_cons_zero, List.set_cons_succ, List.getElem_toArray, List.getElem_cons_zero]
      refine wpAnyH_take (i := 1) (oi := _) (v := ?_) rfl (by kernel_rfl) (by kernel_rfl) (by kernel_rfl) (fun _ _ _ h => h) (Or.inl ⟨by rfl, ?_⟩) (by assumption) ?_
      rotate_left
      · first | (intro w hSw; (try dsimp only at hSw); go_simp; done) | (intro w hSw; (try dsimp only at hSw); go_simp; with_reducible rfl)
      try simp only [Act.put, List.setIfInBounds_toArray, List.set_cons_zero, List.set_cons_succ, List.getElem_toArray, List.getElem_cons_succ, List.getElem_cons_zero]
      refine wpAnyH_take (i := 2) (oi := _) (v := ?_) rfl (by kernel_rfl) (by kernel_rfl) (by kernel_rfl) (fun _ _ _ h => h) (Or.inl ⟨by rfl, ?_⟩) (by assumption) ?_
      rotate_left
      · first | (intro w hSw; (try dsimp only at hSw); go_simp; done) | (intro w hSw; (try dsimp only at hSw); go_simp; with_reducible rfl)
      try simp only [Act.put, List.setIfInBounds_toArray, List.set_cons_zero, List.set_cons_succ, List.getElem_toArray, List.getElem_cons_succ, List.getElem_cons_zero]
      refine wpAnyH_take (i := 3) (oi := _) (v := ?_) rfl (by kernel_rfl) (by kernel_rfl) (by kernel_rfl) (fun _ _ _ h => h) (Or.inl ⟨by rfl, ?_⟩) (by assumption) ?_
      rotate_left
      · first | (intro w hSw; (try dsimp only at hSw); go_simp; done) | (intro w hSw; (try dsimp only at hSw); go_simp; with_reducible rfl)
      try simp only [Act.put, List.setIfInBounds_toArray, List.set_cons_zero, List.set_cons_succ, List.getElem_toArray, List.getElem_cons_succ, List.getElem_cons_zero]
      refine wpAnyH_take (i := 4) (oi := _) (v := ?_) rfl (by kernel_rfl) (by kernel_rfl) (by kernel_rfl) (fun _ _ _ h => h) (Or.inl ⟨by rfl, ?_⟩) (by assumption) ?_
      rotate_left
      · first | (intro w hSw; (try dsimp only at hSw); go_simp; done) | (intro w hSw; (try dsimp only at hSw); go_simp; with_reducible rfl)
      try simp only [Act.put, List.setIfInBounds_toArray, List.set_cons_zero, List.set_cons_succ, List.getElem_toArray, List.getElem_cons_succ, List.getElem_cons_zero]
      refine wpAnyH_ready (rs := [5]) (by kernel_rfl) (by simp) ?_
      refine AllReadyH.cons rfl (fun K hK => ?_) AllReadyH.nil
      go_simp
      go_wp2_with (go_at_call 9; refine (SO.out _ BH.out).mono ?_; rintro e w12 ⟨vs12, vk12, cs12, rfl, oc12, eb12, b12⟩)
      have hfd : ∀ w : World, (Instr.field 33 (.agg #[.int .i64 N, .slice vs12 cn vk12]) 0).run Try.prog w = .ok (.int .i64 N) w := fun _ => by kernel_rfl
      have BI := Lib.hid (BH.out.below b12)
      have YI := Lib.hid (YH.out.below b12)
      clear oc12 eb12 b12
      refine hK.out _ _ ?_ (fun hHeld => ?_)
      · exact ⟨BI.out.cells, YI.out.cells⟩
      clear hK K
      refine wpAnyH_take (i := 6) (oi := _) (v := ?_) rfl (by kernel_rfl) (by kernel_rfl) (by kernel_rfl) (fun _ _ _ h => h) (Or.inl ⟨by rfl, ?_⟩) (by assumption) ?_
      rotate_left
      · first | (intro w hSw; (try dsimp only at hSw); go_simp; done) | (intro w hSw; (try dsimp only at hSw); go_simp; with_reducible rfl)
      try simp only [Act.put, List.setIfInBounds_toArray, List.set_cons_zero, List.set_cons_succ, List.getElem_toArray, List.getElem_cons_succ, List.getElem_cons_zero]
      refine wpAnyH_take (i := 7) (oi := _) (v := ?_) rfl (by kernel_rfl) (by kernel_rfl) (by kernel_rfl) (fun _ _ _ h => h) (Or.inl ⟨by rfl, ?_⟩) (by assumption) ?_
      rotate_left
      · first | (intro w hSw; (try dsimp only at hSw); go_simp; done) | (intro w hSw; (try dsimp only at hSw); go_simp; with_reducible rfl)
      try simp only [Act.put, List.setIfInBounds_toArray, List.set_cons_zero, List.set_cons_succ, List.getElem_toArray, List.getElem_cons_succ, List.getElem_cons_zero]
      refine wpAnyH_take (i := 8) (oi := _) (v := ?_) rfl (by kernel_rfl) (by kernel_rfl) (by kernel_rfl) (fun _ _ _ h => h) (Or.inl ⟨by rfl, ?_⟩) (by assumption) ?_
      rotate_left
      · first | (intro w hSw; (try dsimp only at hSw); go_simp; done) | (intro w hSw; (try dsimp only at hSw); go_simp; with_reducible rfl)
      try simp only [Act.put, List.setIfInBounds_toArray, List.set_cons_zero, List.set_cons_succ, List.getElem_toArray, List.getElem_cons_succ, List.getElem_cons_zero]
      refine wpAnyH_take (i := 9) (oi := _) (v := ?_) rfl (by kernel_rfl) (by kernel_rfl) (by kernel_rfl) (fun _ _ _ h => h) (Or.inl ⟨by rfl, ?_⟩) (by assumption) ?_
      rotate_left
      · first | (intro w hSw; (try dsimp only at hSw); go_simp; done) | (intro w hSw; (try dsimp only at hSw); go_simp; with_reducible rfl)
      try simp only [Act.put, List.setIfInBounds_toArray, List.set_cons_zero, List.set_cons_succ, List.getElem_toArray, List.getElem_cons_succ, List.getElem_cons_zero]
      refine wpAnyH_take (i := 10) (oi := _) (v := ?_) rfl (by kernel_rfl) (by kernel_rfl) (by kernel_rfl) (fun _ _ _ h => h) (Or.inl ⟨by rfl, ?_⟩) (by assumption) ?_
      rotate_left
      · first | (intro w hSw; (try dsimp only at hSw); go_simp; done) | (intro w hSw; (try dsimp only at hSw); go_simp; with_reducible rfl)
      try simp only [Act.put, List.setIfInBounds_toArray, List.set_cons_zero, List.set_cons_succ, List.getElem_toArray, List.getElem_cons_succ, List.getElem_cons_zero]
      refine wpAnyH_take (i := 11) (oi := _) (v := ?_) rfl (by kernel_rfl) (by kernel_rfl) (by kernel_rfl) (fun _ _ _ h => h) (Or.inl ⟨by rfl, ?_⟩) (by assumption) ?_
      rotate_left
      · first | (intro w hSw; (try dsimp only at hSw); go_simp; done) | (intro w hSw; (try dsimp only at hSw); go_simp; with_reducible rfl)
      try simp only [Act.put, List.setIfInBounds_toArray, List.set_cons_zero, List.set_cons_succ, List.getElem_toArray, List.getElem_cons_succ, List.getElem_cons_zero]
      refine wpAnyH_take (i := 12) (oi := _) (v := ?_) rfl (by kernel_rfl) (by kernel_rfl) (by kernel_rfl) (fun _ _ _ h => h) (Or.inl ⟨by rfl, ?_⟩) (by assumption) ?_
      rotate_left
      · first | (intro w hSw; (try dsimp only at hSw); go_simp; done) | (intro w hSw; (try dsimp only at hSw); go_simp; with_reducible rfl)
      try simp only [Act.put, List.setIfInBounds_toArray, List.set_cons_zero, List.set_cons_succ, List.getElem_toArray, List.getElem_cons_succ, List.getElem_cons_zero]
      refine wpAnyH_take (i := 14) (oi := _) (v := ?_) rfl (by kernel_rfl) (by kernel_rfl) (by kernel_rfl) (fun _ _ _ h => h) (Or.inl ⟨by rfl, ?_⟩) (by assumption) ?_
      rotate_left
      · first | (intro w hSw; (try dsimp only at hSw); go_simp; done) | (intro w hSw; (try dsimp only at hSw); go_simp; with_reducible rfl)
      try simp only [Act.put, List.setIfInBounds_toArray, List.set_cons_zero, List.set_cons_succ, List.getElem_toArray, List.getElem_cons_succ, List.getElem_cons_zero]
      clear hfd
      refine wpAnyH_ready (rs := [13]) (by kernel_rfl) (by simp) ?_
      refine AllReadyH.cons rfl (fun K hK => ?_) AllReadyH.nil
      go_simp
      go_wp2_with (go_at_call 9; refine (SO.out _ BI.out).mono ?_; rintro e w13 ⟨vs13, vk13, cs13, rfl, oc13, eb13, b13⟩)
      have BJ := Lib.hid (BI.out.below b13)
      have YJ := Lib.hid (YI.out.below b13)
      have OJ := Lib.hid oc13
      have EJ := Lib.hid eb13
      clear oc13 eb13 b13
      refine hK.out _ _ ?_ (fun hHeld => ?_)
      · exact ⟨BJ.out.cells, YJ.out.cells⟩
      clear hK K
      refine wpAnyH_ready (rs := [15]) (by kernel_rfl) (by simp) ?_
      refine AllReadyH.cons rfl (fun K hK => ?_) AllReadyH.nil
      go_simp
      go_wp2_with (go_at_call 10; refine (SCT.out _ _ _ _ _ BJ.out OJ.out EJ.out).mono ?_; rintro e w14 ⟨rfl, b14⟩)
      have BK := Lib.hid (BJ.out.below b14)
      have YK := Lib.hid (YJ.out.below b14)
      clear b14
      refine hK.out _ _ ?_ (fun hHeld => ?_)
      · exact ⟨BK.out.cells, YK.out.cells⟩
      clear hK K
      refine wpAnyH_take (i := 16) (oi := _) (v := ?_) rfl (by kernel_rfl) (by kernel_rfl) (by kernel_rfl) (fun _ _ _ h => h) (Or.inl ⟨by rfl, ?_⟩) (by assumption) ?_
      rotate_left
      · first | (intro w hSw; (try dsimp only at hSw); go_simp; done) | (intro w hSw; (try dsimp only at hSw); go_simp; with_reducible rfl)
      try simp only [Act.put, List.setIfInBounds_toArray, List.set_cons_zero, List.set_cons_succ, List.getElem_toArray, List.getElem_cons_succ, List.getElem_cons_zero]
      refine wpAnyH_take (i := 17) (oi := _) (v := ?_) rfl (by kernel_rfl) (by kernel_rfl) (by kernel_rfl) (fun _ _ _ h => h) (Or.inl ⟨by rfl, ?_⟩) (by assumption) ?_
      rotate_left
      · first | (intro w hSw; (try dsimp only at hSw); go_simp; done) | (intro w hSw; (try dsimp only at hSw); go_simp; with_reducible rfl)
      try simp only [Act.put, List.setIfInBounds_toArray, List.set_cons_zero, List.set_cons_succ, List.getElem_toArray, List.getElem_cons_succ, List.getElem_cons_zero]
      refine wpAnyH_done (by kernel_rfl) ?_ _
      have BL := Lib.hid BK.out.drew
      go_wp2_with fail
      refine wp_region_held_drew (S := fun W => b3 < W.heap.size ∧ W.cell? ⟨b3, 0, none⟩ = some (.slice sl1 rn cap1) ∧ W.cell? ⟨b3, 1, none⟩ = some (.slice sl2 pn cap2)) (by kernel_rfl) ?_ (fun hHeld => ?_)
      · exact BL.out.cells
      generalize w14.drew = wl at *
      refine wpAnyH_take (i := 0) (oi := _) (v := ?_) rfl (by kernel_rfl) (by kernel_rfl) (by kernel_rfl) (fun _ _ _ h => h) (Or.inl ⟨by rfl, ?_⟩) (by assumption) ?_
      rotate_left
      · first | (intro w hSw; (try dsimp only at hSw); go_simp; done) | (intro w hSw; (try dsimp only at hSw); go_simp; with_reducible rfl)
      try simp only [Act.put, List.setIfInBounds_toArray, List.set_cons_zero, List.set_cons_succ, List.getElem_toArray, List.getElem_cons_zero]
      refine wpAnyH_take (i := 1) (oi := _) (v := ?_) rfl (by kernel_rfl) (by kernel_rfl) (by kernel_rfl) (fun _ _ _ h => h) (Or.inl ⟨by rfl, ?_⟩) (by assumption) ?_
      rotate_left
      · first | (intro w hSw; (try dsimp only at hSw); go_simp; done) | (intro w hSw; (try dsimp only at hSw); go_simp; with_reducible rfl)
      try simp only [Act.put, List.setIfInBounds_toArray, List.set_cons_zero, List.set_cons_succ, List.getElem_toArray, List.getElem_cons_succ, List.getElem_cons_zero]
      refine wpAnyH_take (i := 2) (oi := _) (v := ?_) rfl (by kernel_rfl) (by kernel_rfl) (by kernel_rfl) (fun _ _ _ h => h) (Or.inl ⟨by rfl, ?_⟩) (by assumption) ?_
      rotate_left
      · first | (intro w hSw; (try dsimp only at hSw); go_simp; done) | (intro w hSw; (try dsimp only at hSw); go_simp; with_reducible rfl)
      try simp only [Act.put, List.setIfInBounds_toArray, List.set_cons_zero, List.set_cons_succ, List.getElem_toArray, List.getElem_cons_succ, List.getElem_cons_zero]
      refine wpAnyH_take (i := 4) (oi := _) (v := ?_) rfl (by kernel_rfl) (by kernel_rfl) (by kernel_rfl) (fun _ _ _ h => h) (Or.inl ⟨by rfl, ?_⟩) (by assumption) ?_
      rotate_left
      · first | (intro w hSw; (try dsimp only at hSw); go_simp; done) | (intro w hSw; (try dsimp only at hSw); go_simp; with_reducible rfl)
      try simp only [Act.put, List.setIfInBounds_toArray, List.set_cons_zero, List.set_cons_succ, List.getElem_toArray, List.getElem_cons_succ, List.getElem_cons_zero]
      refine wpAnyH_ready (rs := [3]) (by kernel_rfl) (by simp) ?_
      refine AllReadyH.cons rfl (fun K hK => ?_) AllReadyH.nil
      go_simp
      go_wp2_with (go_at_call 7; refine (LI.out _ BL.out).mono ?_; rintro e w15 ⟨s15, k15, rfl, q15, b15⟩)
      have BM := Lib.hid (BL.out.below b15)
      have QM := Lib.hid q15
      clear q15 b15
      refine hK.out _ _ ?_ (fun hHeld => ?_)
      · exact BM.out.cells
      clear hK K
      refine wpAnyH_ready (rs := [5]) (by kernel_rfl) (by simp) ?_
      refine AllReadyH.cons rfl (fun K hK => ?_) AllReadyH.nil
      go_simp
      go_wp2_with (go_at_call 7; refine (LT.out _ BM.out).mono ?_; rintro e w16 ⟨s16, k16, rfl, q16, b16⟩)
      have BN := Lib.hid (BM.out.below b16)
      have QN := Lib.hid (own_below QM.out b16)
      have QT := Lib.hid q16
      clear q16 b16
      refine hK.out _ _ ?_ (fun hHeld => ?_)
      · exact BN.out.cells
      clear hK K
      refine wpAnyH_ready (rs := [6]) (by kernel_rfl) (by simp) ?_
      refine AllReadyH.cons rfl (fun K hK => ?_) AllReadyH.nil
      go_simp
      go_wp2_with (go_at_call 11; refine (PO.out _ _ _ _ _ _ _ BN.out QN.out QT.out).mono ?_; rintro e w17 ⟨sp, kp, rfl, qp, b17⟩)
      have BO := Lib.hid (BN.out.below b17)
      have QP := Lib.hid qp
      clear qp b17
      refine hK.out _ _ ?_ (fun hHeld => ?_)
      · exact BO.out.cells
      clear hK K
      refine wpAnyH_take (i := 7) (oi := _) (v := ?_) rfl (by kernel_rfl) (by kernel_rfl) (by kernel_rfl) (fun _ _ _ h => h) (Or.inl ⟨by rfl, ?_⟩) (by assumption) ?_
      rotate_left
      · first | (intro w hSw; (try dsimp only at hSw); go_simp; done) | (intro w hSw; (try dsimp only at hSw); go_simp; with_reducible rfl)
      try simp only [Act.put, List.setIfInBounds_toArray, List.set_cons_zero, List.set_cons_succ, List.getElem_toArray, List.getElem_cons_succ, List.getElem_cons_zero]
      refine wpAnyH_done (by kernel_rfl) ?_ _
      by_cases h0 : inn = 0
      · have h0' : ((inn : Int) == 0) = true := by rw [h0]; rfl
        have hok := OKN.out h0
        by_cases ht0 : tn = 0
        · have ht0' : ((tn : Int) == 0) = true := by rw [ht0]; rfl
          rw [decide_eq_true ht0] at hok
          subst hok
          go_wp2
          go_ret
          exact ⟨rfl, BO.out.bel⟩
        · have ht0' : ((tn : Int) == 0) = false := beq_eq_false_iff_ne.2 (by omega)
          rw [decide_eq_false ht0] at hok
          subst hok
          go_wp2
          go_ret
          exact ⟨rfl, BO.out.bel⟩
      · have h0' : ((inn : Int) == 0) = false := beq_eq_false_iff_ne.2 (by omega)
        have OKE := Lib.hid (OKE0.out h0)
        clear OKN OKE0
        have BQ := Lib.hid BO.out.drew
        have QQ : Hid (w17.drew.ownsRow _ 64 2 (.slice sp pln kp) pln ecs) := own_below QP.out (Below.refl _ _).drew
        by_cases heq : pln = inn
        · have hee : ((pln : Int) == (inn : Int)) = true := by rw [heq]; simp
          have hok := OKE.out.1 heq
          clear heq
          go_wp2_with fail
          refine wp_region_held_drew (S := fun W => b3 < W.heap.size ∧ W.cell? ⟨b3, 0, none⟩ = some (.slice sl1 rn cap1) ∧ W.cell? ⟨b3, 1, none⟩ = some (.slice sl2 pn cap2)) (by kernel_rfl) ?_ (fun hHeld => ?_)
          · exact BQ.out.cells
          generalize w17.drew = wq at *
          refine wpAnyH_take (i := 0) (oi := _) (v := ?_) rfl (by kernel_rfl) (by kernel_rfl) (by kernel_rfl) (fun _ _ _ h => h) (Or.inl ⟨by rfl, ?_⟩) (by assumption) ?_
          rotate_left
          · first | (intro w hSw; (try dsimp only at hSw); go_simp; done) | (intro w hSw; (try dsimp only at hSw); go_simp; with_reducible rfl)
          try simp only [Act.put, List.setIfInBounds_toArray, List.set_cons_zero, List.set_cons_succ, List.getElem_toArray, List.getElem_cons_zero]
          refine wpAnyH_take (i := 1) (oi := _) (v := ?_) rfl (by kernel_rfl) (by kernel_rfl) (by kernel_rfl) (fun _ _ _ h => h) (Or.inl ⟨by rfl, ?_⟩) (by assumption) ?_
          rotate_left
          · first | (intro w hSw; (try dsimp only at hSw); go_simp; done) | (intro w hSw; (try dsimp only at hSw); go_simp; with_reducible rfl)
          try simp only [Act.put, List.setIfInBounds_toArray, List.set_cons_zero, List.set_cons_succ, List.getElem_toArray, List.getElem_cons_succ, List.getElem_cons_zero]
          refine wpAnyH_take (i := 2) (oi := _) (v := ?_) rfl (by kernel_rfl) (by kernel_rfl) (by kernel_rfl) (fun _ _ _ h => h) (Or.inl ⟨by rfl, ?_⟩) (by assumption) ?_
          rotate_left
          · first | (intro w hSw; (try dsimp only at hSw); go_simp; done) | (intro w hSw; (try dsimp only at hSw); go_simp; with_reducible rfl)
          try simp only [Act.put, List.setIfInBounds_toArray, List.set_cons_zero, List.set_cons_succ, List.getElem_toArray, List.getElem_cons_succ, List.getElem_cons_zero]
          refine wpAnyH_take (i := 3) (oi := _) (v := ?_) rfl (by kernel_rfl) (by kernel_rfl) (by kernel_rfl) (fun _ _ _ h => h) (Or.inl ⟨by rfl, ?_⟩) (by assumption) ?_
          rotate_left
          · first | (intro w hSw; (try dsimp only at hSw); go_simp; done) | (intro w hSw; (try dsimp only at hSw); go_simp; with_reducible rfl)
          try simp only [Act.put, List.setIfInBounds_toArray, List.set_cons_zero, List.set_cons_succ, List.getElem_toArray, List.getElem_cons_succ, List.getElem_cons_zero]
          refine wpAnyH_take (i := 4) (oi := _) (v := ?_) rfl (by kernel_rfl) (by kernel_rfl) (by kernel_rfl) (fun _ _ _ h => h) (Or.inl ⟨by rfl, ?_⟩) (by assumption) ?_
          rotate_left
          · first | (intro w hSw; (try dsimp only at hSw); go_simp; done) | (intro w hSw; (try dsimp only at hSw); go_simp; with_reducible rfl)
          try simp only [Act.put, List.setIfInBounds_toArray, List.set_cons_zero, List.set_cons_succ, List.getElem_toArray, List.getElem_cons_succ, List.getElem_cons_zero]
          refine wpAnyH_take (i := 5) (oi := _) (v := ?_) rfl (by kernel_rfl) (by kernel_rfl) (by kernel_rfl) (fun _ _ _ h => h) (Or.inl ⟨by rfl, ?_⟩) (by assumption) ?_
          rotate_left
          · first | (intro w hSw; (try dsimp only at hSw); go_simp; done) | (intro w hSw; (try dsimp only at hSw); go_simp; with_reducible rfl)
          try simp only [Act.put, List.setIfInBounds_toArray, List.set_cons_zero, List.set_cons_succ, List.getElem_toArray, List.getElem_cons_succ, List.getElem_cons_zero]
          refine wpAnyH_take (i := 6) (oi := _) (v := ?_) rfl (by kernel_rfl) (by kernel_rfl) (by kernel_rfl) (fun _ _ _ h => h) (Or.inl ⟨by rfl, ?_⟩) (by assumption) ?_
          rotate_left
          · first | (intro w hSw; (try dsimp only at hSw); go_simp; done) | (intro w hSw; (try dsimp only at hSw); go_simp; with_reducible rfl)
          try simp only [Act.put, List.setIfInBounds_toArray, List.set_cons_zero, List.set_cons_succ, List.getElem_toArray, List.getElem_cons_succ, List.getElem_cons_zero]
          refine wpAnyH_take (i := 7) (oi := _) (v := ?_) rfl (by kernel_rfl) (by kernel_rfl) (by kernel_rfl) (fun _ _ _ h => h) (Or.inl ⟨by rfl, ?_⟩) (by assumption) ?_
          rotate_left
          · first | (intro w hSw; (try dsimp only at hSw); go_simp; done) | (intro w hSw; (try dsimp only at hSw); go_simp; with_reducible rfl)
          try simp only [Act.put, List.setIfInBounds_toArray, List.set_cons_zero, List.set_cons_succ, List.getElem_toArray, List.getElem_cons_succ, List.getElem_cons_zero]
          refine wpAnyH_take (i := 8) (oi := _) (v := ?_) rfl (by kernel_rfl) (by kernel_rfl) (by kernel_rfl) (fun _ _ _ h => h) (Or.inl ⟨by rfl, ?_⟩) (by assumption) ?_
          rotate_left
          · first | (intro w hSw; (try dsimp only at hSw); go_simp; done) | (intro w hSw; (try dsimp only at hSw); go_simp; with_reducible rfl)
          try simp only [Act.put, List.setIfInBounds_toArray, List.set_cons_zero, List.set_cons_succ, List.getElem_toArray, List.getElem_cons_succ, List.getElem_cons_zero]
          refine wpAnyH_take (i := 9) (oi := _) (v := ?_) rfl (by kernel_rfl) (by kernel_rfl) (by kernel_rfl) (fun _ _ _ h => h) (Or.inl ⟨by rfl, ?_⟩) (by assumption) ?_
          rotate_left
          · first | (intro w hSw; (try dsimp only at hSw); go_simp; done) | (intro w hSw; (try dsimp only at hSw); go_simp; with_reducible rfl)
          try simp only [Act.put, List.setIfInBounds_toArray, List.set_cons_zero, List.set_cons_succ, List.getElem_toArray, List.getElem_cons_succ, List.getElem_cons_zero]
          refine wpAnyH_ready (rs := [10]) (by kernel_rfl) (by simp) ?_
          refine AllReadyH.cons rfl (fun K hK => ?_) AllReadyH.nil
          go_simp
          go_wp2_with (go_at_call 13; refine (LP.out _ _ _ _ QQ.out).mono ?_; rintro e w18 ⟨s18, k18, rfl, q18, b18⟩)
          have BR := Lib.hid (BQ.out.below b18)
          have QR := Lib.hid q18
          clear q18 b18
          refine hK.out _ _ ?_ (fun hHeld => ?_)
          · exact BR.out.cells
          clear hK K
          refine wpAnyH_ready (rs := [11]) (by kernel_rfl) (by simp) ?_
          refine AllReadyH.cons rfl (fun K hK => ?_) AllReadyH.nil
          go_simp
          go_wp2_with (go_at_call 12; refine (PR.out _ _ _ _ BR.out QR.out).mono ?_; rintro e w19 ⟨rfl, b19⟩)
          have BS9 := Lib.hid (BR.out.below b19)
          clear b19
          refine hK.out _ _ ?_ (fun hHeld => ?_)
          · exact BS9.out.cells
          clear hK K
          refine wpAnyH_take (i := 12) (oi := _) (v := ?_) rfl (by kernel_rfl) (by kernel_rfl) (by kernel_rfl) (fun _ _ _ h => h) (Or.inl ⟨by rfl, ?_⟩) (by assumption) ?_
          rotate_left
          · first | (intro w hSw; (try dsimp only at hSw); go_simp; done) | (intro w hSw; (try dsimp only at hSw); go_simp; with_reducible rfl)
          try simp only [Act.put, List.setIfInBounds_toArray, List.set_cons_zero, List.set_cons_succ, List.getElem_toArray, List.getElem_cons_succ, List.getElem_cons_zero]
          refine wpAnyH_take (i := 13) (oi := _) (v := ?_) rfl (by kernel_rfl) (by kernel_rfl) (by kernel_rfl) (fun _ _ _ h => h) (Or.inl ⟨by rfl, ?_⟩) (by assumption) ?_
          rotate_left
          · first | (intro w hSw; (try dsimp only at hSw); go_simp; done) | (intro w hSw; (try dsimp only at hSw); go_simp; with_reducible rfl)
          try simp only [Act.put, List.setIfInBounds_toArray, List.set_cons_zero, List.set_cons_succ, List.getElem_toArray, List.getElem_cons_succ, List.getElem_cons_zero]
          refine wpAnyH_take (i := 14) (oi := _) (v := ?_) rfl (by kernel_rfl) (by kernel_rfl) (by kernel_rfl) (fun _ _ _ h => h) (Or.inl ⟨by rfl, ?_⟩) (by assumption) ?_
          rotate_left
          · first | (intro w hSw; (try dsimp only at hSw); go_simp; done) | (intro w hSw; (try dsimp only at hSw); go_simp; with_reducible rfl)
          try simp only [Act.put, List.setIfInBounds_toArray, List.set_cons_zero, List.set_cons_succ, List.getElem_toArray, List.getElem_cons_succ, List.getElem_cons_zero]
          refine wpAnyH_done (by kernel_rfl) ?_ _
          go_wp2
          go_ret
          exact ⟨by first | rfl | (rw [hok]; simp), BS9.out.bel⟩
        · have hee : ((pln : Int) == (inn : Int)) = false := beq_eq_false_iff_ne.2 (by omega)
          have hok := OKE.out.2 heq
          go_wp2_with fail
          refine wp_region_held_drew (S := fun W => b3 < W.heap.size ∧ W.cell? ⟨b3, 0, none⟩ = some (.slice sl1 rn cap1) ∧ W.cell? ⟨b3, 1, none⟩ = some (.slice sl2 pn cap2)) (by kernel_rfl) ?_ (fun hHeld => ?_)
          · exact BQ.out.cells
          generalize w17.drew = wq at *
          refine wpAnyH_take (i := 0) (oi := _) (v := ?_) rfl (by kernel_rfl) (by kernel_rfl) (by kernel_rfl) (fun _ _ _ h => h) (Or.inl ⟨by rfl, ?_⟩) (by assumption) ?_
          rotate_left
          · first | (intro w hSw; (try dsimp only at hSw); go_simp; done) | (intro w hSw; (try dsimp only at hSw); go_simp; with_reducible rfl)
          try simp only [Act.put, List.setIfInBounds_toArray, List.set_cons_zero, List.set_cons_succ, List.getElem_toArray, List.getElem_cons_zero]
          refine wpAnyH_take (i := 1) (oi := _) (v := ?_) rfl (by kernel_rfl) (by kernel_rfl) (by kernel_rfl) (fun _ _ _ h => h) (Or.inl ⟨by rfl, ?_⟩) (by assumption) ?_
          rotate_left
          · first | (intro w hSw; (try dsimp only at hSw); go_simp; done) | (intro w hSw; (try dsimp only at hSw); go_simp; with_reducible rfl)
          try simp only [Act.put, List.setIfInBounds_toArray, List.set_cons_zero, List.set_cons_succ, List.getElem_toArray, List.getElem_cons_succ, List.getElem_cons_zero]
          refine wpAnyH_take (i := 2) (oi := _) (v := ?_) rfl (by kernel_rfl) (by kernel_rfl) (by kernel_rfl) (fun _ _ _ h => h) (Or.inl ⟨by rfl, ?_⟩) (by assumption) ?_
          rotate_left
          · first | (intro w hSw; (try dsimp only at hSw); go_simp; done) | (intro w hSw; (try dsimp only at hSw); go_simp; with_reducible rfl)
          try simp only [Act.put, List.setIfInBounds_toArray, List.set_cons_zero, List.set_cons_succ, List.getElem_toArray, List.getElem_cons_succ, List.getElem_cons_zero]
          refine wpAnyH_take (i := 3) (oi := _) (v := ?_) rfl (by kernel_rfl) (by kernel_rfl) (by kernel_rfl) (fun _ _ _ h => h) (Or.inl ⟨by rfl, ?_⟩) (by assumption) ?_
          rotate_left
          · first | (intro w hSw; (try dsimp only at hSw); go_simp; done) | (intro w hSw; (try dsimp only at hSw); go_simp; with_reducible rfl)
          try simp only [Act.put, List.setIfInBounds_toArray, List.set_cons_zero, List.set_cons_succ, List.getElem_toArray, List.getElem_cons_succ, List.getElem_cons_zero]
          refine wpAnyH_take (i := 4) (oi := _) (v := ?_) rfl (by kernel_rfl) (by kernel_rfl) (by kernel_rfl) (fun _ _ _ h => h) (Or.inl ⟨by rfl, ?_⟩) (by assumption) ?_
          rotate_left
          · first | (intro w hSw; (try dsimp only at hSw); go_simp; done) | (intro w hSw; (try dsimp only at hSw); go_simp; with_reducible rfl)
          try simp only [Act.put, List.setIfInBounds_toArray, List.set_cons_zero, List.set_cons_succ, List.getElem_toArray, List.getElem_cons_succ, List.getElem_cons_zero]
          refine wpAnyH_take (i := 5) (oi := _) (v := ?_) rfl (by kernel_rfl) (by kernel_rfl) (by kernel_rfl) (fun _ _ _ h => h) (Or.inl ⟨by rfl, ?_⟩) (by assumption) ?_
          rotate_left
          · first | (intro w hSw; (try dsimp only at hSw); go_simp; done) | (intro w hSw; (try dsimp only at hSw); go_simp; with_reducible rfl)
          try simp only [Act.put, List.setIfInBounds_toArray, List.set_cons_zero, List.set_cons_succ, List.getElem_toArray, List.getElem_cons_succ, List.getElem_cons_zero]
          refine wpAnyH_take (i := 6) (oi := _) (v := ?_) rfl (by kernel_rfl) (by kernel_rfl) (by kernel_rfl) (fun _ _ _ h => h) (Or.inl ⟨by rfl, ?_⟩) (by assumption) ?_
          rotate_left
          · first | (intro w hSw; (try dsimp only at hSw); go_simp; done) | (intro w hSw; (try dsimp only at hSw); go_simp; with_reducible rfl)
          try simp only [Act.put, List.setIfInBounds_toArray, List.set_cons_zero, List.set_cons_succ, List.getElem_toArray, List.getElem_cons_succ, List.getElem_cons_zero]
          refine wpAnyH_take (i := 7) (oi := _) (v := undef) rfl (by kernel_rfl) (by kernel_rfl) (by kernel_rfl) (fun _ _ _ h => h) (Or.inr ⟨by rfl, rfl⟩) (by assumption) ?_
          try simp only [Act.put, List.setIfInBounds_toArray, List.set_cons_zero, List.set_cons_succ, List.getElem_toArray, List.getElem_cons_succ, List.getElem_cons_zero]
          refine wpAnyH_take (i := 8) (oi := _) (v := undef) rfl (by kernel_rfl) (by kernel_rfl) (by kernel_rfl) (fun _ _ _ h => h) (Or.inr ⟨by rfl, rfl⟩) (by assumption) ?_
          try simp only [Act.put, List.setIfInBounds_toArray, List.set_cons_zero, List.set_cons_succ, List.getElem_toArray, List.getElem_cons_succ, List.getElem_cons_zero]
          refine wpAnyH_take (i := 9) (oi := _) (v := undef) rfl (by kernel_rfl) (by kernel_rfl) (by kernel_rfl) (fun _ _ _ h => h) (Or.inr ⟨by rfl, rfl⟩) (by assumption) ?_
          try simp only [Act.put, List.setIfInBounds_toArray, List.set_cons_zero, List.set_cons_succ, List.getElem_toArray, List.getElem_cons_succ, List.getElem_cons_zero]
          refine wpAnyH_take (i := 10) (oi := _) (v := undef) rfl (by kernel_rfl) (by kernel_rfl) (by kernel_rfl) (fun _ _ _ h => h) (Or.inr ⟨by rfl, rfl⟩) (by assumption) ?_
          try simp only [Act.put, List.setIfInBounds_toArray, List.set_cons_zero, List.set_cons_succ, List.getElem_toArray, List.getElem_cons_succ, List.getElem_cons_zero]
          refine wpAnyH_take (i := 11) (oi := _) (v := undef) rfl (by kernel_rfl) (by kernel_rfl) (by kernel_rfl) (fun _ _ _ h => h) (Or.inr ⟨by rfl, rfl⟩) (by assumption) ?_
          try simp only [Act.put, List.setIfInBounds_toArray, List.set_cons_zero, List.set_cons_succ, List.getElem_toArray, List.getElem_cons_succ, List.getElem_cons_zero]
          refine wpAnyH_take (i := 12) (oi := _) (v := ?_) rfl (by kernel_rfl) (by kernel_rfl) (by kernel_rfl) (fun _ _ _ h => h) (Or.inl ⟨by rfl, ?_⟩) (by assumption) ?_
          rotate_left
          · first | (intro w hSw; (try dsimp only at hSw); go_simp; done) | (intro w hSw; (try dsimp only at hSw); go_simp; with_reducible rfl)
          try simp only [Act.put, List.setIfInBounds_toArray, List.set_cons_zero, List.set_cons_succ, List.getElem_toArray, List.getElem_cons_succ, List.getElem_cons_zero]
          refine wpAnyH_take (i := 13) (oi := _) (v := ?_) rfl (by kernel_rfl) (by kernel_rfl) (by kernel_rfl) (fun _ _ _ h => h) (Or.inl ⟨by rfl, ?_⟩) (by assumption) ?_
          rotate_left
          · first | (intro w hSw; (try dsimp only at hSw); go_simp; done) | (intro w hSw; (try dsimp only at hSw); go_simp; with_reducible rfl)
          try simp only [Act.put, List.setIfInBounds_toArray, List.set_cons_zero, List.set_cons_succ, List.getElem_toArray, List.getElem_cons_succ, List.getElem_cons_zero]
          refine wpAnyH_take (i := 14) (oi := _) (v := ?_) rfl (by kernel_rfl) (by kernel_rfl) (by kernel_rfl) (fun _ _ _ h => h) (Or.inl ⟨by rfl, ?_⟩) (by assumption) ?_
          rotate_left
          · first | (intro w hSw; (try dsimp only at hSw); go_simp; done) | (intro w hSw; (try dsimp only at hSw); go_simp; with_reducible rfl)
          try simp only [Act.put, List.setIfInBounds_toArray, List.set_cons_zero, List.set_cons_succ, List.getElem_toArray, List.getElem_cons_succ, List.getElem_cons_zero]
          refine wpAnyH_done (by kernel_rfl) ?_ _
          go_wp2
          go_ret
          exact ⟨by first | rfl | (rw [hok]; simp), BQ.out.bel⟩
  · have BA := Lib.hid (BD.out.below (bA0 wd (.cells #[.int .i64 0, .slice none 0 0] 33)))
    have XA : Hid ((wd.alloc (.cells #[.int .i64 0, .slice none 0 0] 33)).heap[wd.heap.size]? = some (.cells #[.int .i64 0, .slice none 0 0] 33)) := new_at _ _
    have FA : Hid (Fr wd wd.heap.size (wd.alloc (.cells #[.int .i64 0, .slice none 0 0] 33))) := ⟨rfl, bA0 _ _⟩
    have BU := BD
    go_simp
    refine hK.out _ _ ?_ (fun hHeld => ?_)
    · exact BA.out.cells
    clear hK K
    generalize wd.alloc (.cells #[.int .i64 0, .slice none 0 0] 33) = wa at *
    generalize wd.heap.size = b7 at *
    refine wpAnyH_ready (rs := [3]) (by kernel_rfl) (by simp) ?_
    refine AllReadyH.cons rfl (fun K hK => ?_) AllReadyH.nil
    go_simp
    go_wp2_with (go_at_call 7; refine (LI.out _ BA.out).mono ?_; rintro e w8 ⟨s8, k8, rfl, q8, b8⟩)
    have B8 := Lib.hid (BA.out.below b8)
    have Q8 := Lib.hid q8
    have XB : Hid (w8.heap[b7]? = some (.cells #[.int .i64 0, .slice none 0 0] 33)) := (b8.block b7 (Array.getElem?_eq_some_iff.1 XA.out).1).trans XA.out
    clear XA
    have XA := XB
    clear XB
    have FB := Lib.hid (FA.out.below b8)
    clear FA
    have FA := FB
    clear FB
    clear q8 b8
    refine hK.out _ _ ?_ (fun hHeld => ?_)
    · exact B8.out.cells
    clear hK K
    refine wpAnyH_ready (rs := [4]) (by kernel_rfl) (by simp) ?_
    refine AllReadyH.cons rfl (fun K hK => ?_) AllReadyH.nil
    go_simp
    go_wp2_with (go_at_call 6; refine (IC.out _ _ _ _ B8.out Q8.out).mono ?_; rintro e w7 ⟨vs, vk, cs, rfl, oc7, eb7, b7'⟩)
    have B7 := Lib.hid (B8.out.below b7')
    have XB : Hid (w7.heap[b7]? = some (.cells #[.int .i64 0, .slice none 0 0] 33)) := (b7'.block b7 (Array.getElem?_eq_some_iff.1 XA.out).1).trans XA.out
    clear XA
    have XA := XB
    clear XB
    have FB := Lib.hid (FA.out.below b7')
    clear FA
    have FA := FB
    clear FB
    have O7 := Lib.hid (oc7.mono (Nat.zero_le _))
    have E7 := Lib.hid eb7
    clear oc7 eb7 b7'
    refine hK.out _ _ ?_ (fun hHeld => ?_)
    · exact B7.out.cells
    clear hK K
    refine wpAnyH_ready (rs := [6]) (by kernel_rfl) (by simp) ?_
    refine AllReadyH.cons rfl (fun K hK => ?_) AllReadyH.nil
    have OS : Only b7 w7 ((w7.setCell ⟨b7, 0, none⟩ (.int .i64 N)).setCell ⟨b7, 1, none⟩ (.slice vs cn vk)) := ((Only.refl b7 w7).setCell 0 _).setCell 1 _
    have BS := Lib.hid (BU.out.fr FA.out OS)
    have YS : Hid (CN b7 N vs cn vk cs ((w7.setCell ⟨b7, 0, none⟩ (.int .i64 N)).setCell ⟨b7, 1, none⟩ (.slice vs cn vk))) := ⟨⟨0, OwC.onlyB O7.out OS XA.out⟩, heap_setCell_same _ b7 1 _ 33 (.slice vs cn vk) (heap_setCell_same w7 b7 0 _ 33 (.int .i64 N) XA.out)⟩
    have zl : b7 < w7.heap.size := (Array.getElem?_eq_some_iff.1 XA.out).1
    have z0 : w7.cell? ⟨b7, 0, none⟩ = some (.int .i64 0) := by simp [World.cell?, XA.out]
    have z1 : w7.cell? ⟨b7, 1, none⟩ = some (.slice none 0 0) := by simp [World.cell?, XA.out]
    have f0 : w7.frozen? ⟨b7, 0, none⟩ = false := by simp [World.frozen?, XA.out]
    have f1 : w7.frozen? ⟨b7, 1, none⟩ = false := by simp [World.frozen?, XA.out]
    clear OS
    go_simp
    refine hK.out _ _ ?_ (fun hHeld => ?_)
    · exact BS.out.cells
    clear hK K
    clear zl z0 z1 f0 f1 XA O7 FA BU
    generalize ((w7.setCell ⟨b7, 0, none⟩ (.int .i64 N)).setCell ⟨b7, 1, none⟩ (.slice vs cn vk)) = w9 at *
    refine wpAnyH_done (by kernel_rfl) ?_ _
    have BE := Lib.hid BS.out.drew
    have YE := Lib.hid YS.out.drew
    go_wp2_with fail
    refine wp_region_held_drew (S := fun W => b7 < W.heap.size ∧ W.cell? ⟨b7, 0, none⟩ = some (.int .i64 N) ∧ W.cell? ⟨b7, 1, none⟩ = some (.slice vs cn vk)) (by kernel_rfl) ?_ (fun hHeld => ?_)
    · exact YE.out.cells
    generalize w9.drew = we at *
    refine wpAnyH_take (i := 0) (oi := _) (v := ?_) rfl (by kernel_rfl) (by kernel_rfl) (by kernel_rfl) (fun _ _ _ h => h) (Or.inl ⟨by rfl, ?_⟩) (by assumption) ?_
    rotate_left
    · first | (intro w hSw; (try dsimp only at hSw); go_simp; done) | (intro w hSw; (try dsimp only at hSw); go_simp; with_reducible rfl)
    try simp only [Act.put, List.setIfInBounds_toArray, List.set_cons_zero, List.set_cons_succ, List.getElem_toArray, List.getElem_cons_zero]
    refine wpAnyH_take (i := 1) (oi := _) (v := ?_) rfl (by kernel_rfl) (by kernel_rfl) (by kernel_rfl) (fun _ _ _ h => h) (Or.inl ⟨by rfl, ?_⟩) (by assumption) ?_
    rotate_left
    · first | (intro w hSw; (try dsimp only at hSw); go_simp; done) | (intro w hSw; (try dsimp only at hSw); go_simp; with_reducible rfl)
    try simp only [Act.put, List.setIfInBounds_toArray, List.set_cons_zero, List.set_cons_succ, List.getElem_toArray, List.getElem_cons_succ, List.getElem_cons_zero]
    refine wpAnyH_ready (rs := [2]) (by kernel_rfl) (by simp) ?_
    refine AllReadyH.cons rfl (fun K hK => ?_) AllReadyH.nil
    go_simp
    go_wp2_with (go_at_call 7; refine (LT.out _ BE.out).mono ?_; rintro e w10 ⟨s10, k10, rfl, q10, b10⟩)
    have BF := Lib.hid (BE.out.below b10)
    have YF := Lib.hid (YE.out.below b10)
    have QF := Lib.hid q10
    clear q10 b10
    refine hK.out _ _ ?_ (fun hHeld => ?_)
    · exact YF.out.cells
    clear hK K
    refine wpAnyH_ready (rs := [3]) (by kernel_rfl) (by simp) ?_
    refine AllReadyH.cons rfl (fun K hK => ?_) AllReadyH.nil
    go_simp
    go_wp2_with (go_at_call 8; refine (CT.out _ _ _ _ _ _ _ _ YF.out E7.out QF.out).mono ?_; rintro e w11 ⟨rfl, b11⟩)
    have BG := Lib.hid (BF.out.below b11)
    have YG := Lib.hid (YF.out.below b11)
    clear b11
    refine hK.out _ _ ?_ (fun hHeld => ?_)
    · exact YG.out.cells
    clear hK K
    refine wpAnyH_take (i := 4) (oi := _) (v := ?_) rfl (by kernel_rfl) (by kernel_rfl) (by kernel_rfl) (fun _ _ _ h => h) (Or.inl ⟨by rfl, ?_⟩) (by assumption) ?_
    rotate_left
    · first | (intro w hSw; (try dsimp only at hSw); go_simp; done) | (intro w hSw; (try dsimp only at hSw); go_simp; with_reducible rfl)
    try simp only [Act.put, List.setIfInBounds_toArray, List.set_cons_zero, List.set_cons_succ, List.getElem_toArray, List.getElem_cons_succ, List.getElem_cons_zero]
    refine wpAnyH_done (by kernel_rfl) ?_ _
    have BH := Lib.hid BG.out.drew
    have YH := Lib.hid YG.out.drew
    go_wp2_with fail
    refine wp_region_held_drew (S := fun W => (b3 < W.heap.size ∧ W.cell? ⟨b3, 0, none⟩ = some (.slice sl1 rn cap1) ∧ W.cell? ⟨b3, 1, none⟩ = some (.slice sl2 pn cap2)) ∧ b7 < W.heap.size ∧ W.cell? ⟨b7, 0, none⟩ = some (.int .i64 N) ∧ W.cell? ⟨b7, 1, none⟩ = some (.slice vs cn vk)) (by kernel_rfl) ?_ (fun hHeld => ?_)
    · exact ⟨BH.out.cells, YH.out.cells⟩
    generalize w11.drew = wh at *
    refine wpAnyH_take (i := 0) (oi := _) (v := ?_) rfl (by kernel_rfl) (by kernel_rfl) (by kernel_rfl) (fun _ _ _ h => h) (Or.inl ⟨by rfl, ?_⟩) (by assumption) ?_
    rotate_left
    · first | (intro w hSw; (try dsimp only at hSw); go_simp; done) | (intro w hSw; (try dsimp only at hSw); go_simp; with_reducible rfl)
    try simp only [Act.put, List.setIfInBounds_toArray, List.set_cons_zero, List.set_cons_succ, List.getElem_toArray, List.getElem_cons_zero]
    refine wpAnyH_take (i := 1) (oi := _) (v := ?_) rfl (by kernel_rfl) (by kernel_rfl) (by kernel_rfl) (fun _ _ _ h => h) (Or.inl ⟨by rfl, ?_⟩) (by assumption) ?_
    rotate_left
    · first | (intro w hSw; (try dsimp only at hSw); go_simp; done) | (intro w hSw; (try dsimp only at hSw); go_simp; with_reducible rfl)
    try simp only [Act.put, List.setIfInBounds_toArray, List.set_cons_zero, List.set_cons_succ, List.getElem_toArray, List.getElem_cons_succ, List.getElem_cons_zero]
    refine wpAnyH_take (i := 2) (oi := _) (v := ?_) rfl (by kernel_rfl) (by kernel_rfl) (by kernel_rfl) (fun _ _ _ h => h) (Or.inl ⟨by rfl, ?_⟩) (by assumption) ?_
    rotate_left
    · first | (intro w hSw; (try dsimp only at hSw); go_simp; done) | (intro w hSw; (try dsimp only at hSw); go_simp; with_reducible rfl)
    try simp only [Act.put, List.setIfInBounds_toArray, List.set_cons_zero, List.set_cons_succ, List.getElem_toArray, List.getElem_cons_succ, List.getElem_cons_zero]
    refine wpAnyH_take (i := 3) (oi := _) (v := ?_) rfl (by kernel_rfl) (by kernel_rfl) (by kernel_rfl) (fun _ _ _ h => h) (Or.inl ⟨by rfl, ?_⟩) (by assumption) ?_
    rotate_left
    · first | (intro w hSw; (try dsimp only at hSw); go_simp; done) | (intro w hSw; (try dsimp only at hSw); go_simp; with_reducible rfl)
    try simp only [Act.put, List.setIfInBounds_toArray, List.set_cons_zero, List.set_cons_succ, List.getElem_toArray, List.getElem_cons_succ, List.getElem_cons_zero]
    refine wpAnyH_take (i := 4) (oi := _) (v := ?_) rfl (by kernel_rfl) (by kernel_rfl) (by kernel_rfl) (fun _ _ _ h => h) (Or.inl ⟨by rfl, ?_⟩) (by assumption) ?_
    rotate_left
    · first | (intro w hSw; (try dsimp only at hSw); go_simp; done) | (intro w hSw; (try dsimp only at hSw); go_simp; with_reducible rfl)
    try simp only [Act.put, List.setIfInBounds_toArray, List.set_cons_zero, List.set_cons_succ, List.getElem_toArray, List.getElem_cons_succ, List.getElem_cons_zero]
    refine wpAnyH_ready (rs := [5]) (by kernel_rfl) (by simp) ?_
    refine AllReadyH.cons rfl (fun K hK => ?_) AllReadyH.nil
    go_simp
    go_wp2_with (go_at_call 9; refine (SO.out _ BH.out).mono ?_; rintro e w12 ⟨vs12, vk12, cs12, rfl, oc12, eb12, b12⟩)
    have hfd : ∀ w : World, (Instr.field 33 (.agg #[.int .i64 N, .slice vs12 cn vk12]) 0).run Try.prog w = .ok (.int .i64 N) w := fun _ => by kernel_rfl
    have BI := Lib.hid (BH.out.below b12)
    have YI := Lib.hid (YH.out.below b12)
    clear oc12 eb12 b12
    refine hK.out _ _ ?_ (fun hHeld => ?_)
    · exact ⟨BI.out.cells, YI.out.cells⟩
    clear hK K
    refine wpAnyH_take (i := 6) (oi := _) (v := ?_) rfl (by kernel_rfl) (by kernel_rfl) (by kernel_rfl) (fun _ _ _ h => h) (Or.inl ⟨by rfl, ?_⟩) (by assumption) ?_
    rotate_left
    · first | (intro w hSw; (try dsimp only at hSw); go_simp; done) | (intro w hSw; (try dsimp only at hSw); go_simp; with_reducible rfl)
    try simp only [Act.put, List.setIfInBounds_toArray, List.set_cons_zero, List.set_cons_succ, List.getElem_toArray, List.getElem_cons_succ, List.getElem_cons_zero]
    refine wpAnyH_take (i := 7) (oi := _) (v := ?_) rfl (by kernel_rfl) (by kernel_rfl) (by kernel_rfl) (fun _ _ _ h => h) (Or.inl ⟨by rfl, ?_⟩) (by assumption) ?_
    rotate_left
    · first | (intro w hSw; (try dsimp only at hSw); go_simp; done) | (intro w hSw; (try dsimp only at hSw); go_simp; with_reducible rfl)
    try simp only [Act.put, List.setIfInBounds_toArray, List.set_cons_zero, List.set_cons_succ, List.getElem_toArray, List.getElem_cons_succ, List.getElem_cons_zero]
    refine wpAnyH_take (i := 8) (oi := _) (v := ?_) rfl (by kernel_rfl) (by kernel_rfl) (by kernel_rfl) (fun _ _ _ h => h) (Or.inl ⟨by rfl, ?_⟩) (by assumption) ?_
    rotate_left
    · first | (intro w hSw; (try dsimp only at hSw); go_simp; done) | (intro w hSw; (try dsimp only at hSw); go_simp; with_reducible rfl)
    try simp only [Act.put, List.setIfInBounds_toArray, List.set_cons_zero, List.set_cons_succ, List.getElem_toArray, List.getElem_cons_succ, List.getElem_cons_zero]
    refine wpAnyH_take (i := 9) (oi := _) (v := ?_) rfl (by kernel_rfl) (by kernel_rfl) (by kernel_rfl) (fun _ _ _ h => h) (Or.inl ⟨by rfl, ?_⟩) (by assumption) ?_
    rotate_left
    · first | (intro w hSw; (try dsimp only at hSw); go_simp; done) | (intro w hSw; (try dsimp only at hSw); go_simp; with_reducible rfl)
    try simp only [Act.put, List.setIfInBounds_toArray, List.set_cons_zero, List.set_cons_succ, List.getElem_toArray, List.getElem_cons_succ, List.getElem_cons_zero]
    refine wpAnyH_take (i := 10) (oi := _) (v := ?_) rfl (by kernel_rfl) (by kernel_rfl) (by kernel_rfl) (fun _ _ _ h => h) (Or.inl ⟨by rfl, ?_⟩) (by assumption) ?_
    rotate_left
    · first | (intro w hSw; (try dsimp only at hSw); go_simp; done) | (intro w hSw; (try dsimp only at hSw); go_simp; with_reducible rfl)
    try simp only [Act.put, List.setIfInBounds_toArray, List.set_cons_zero, List.set_cons_succ, List.getElem_toArray, List.getElem_cons_succ, List.getElem_cons_zero]
    refine wpAnyH_take (i := 11) (oi := _) (v := ?_) rfl (by kernel_rfl) (by kernel_rfl) (by kernel_rfl) (fun _ _ _ h => h) (Or.inl ⟨by rfl, ?_⟩) (by assumption) ?_
    rotate_left
    · first | (intro w hSw; (try dsimp only at hSw); go_simp; done) | (intro w hSw; (try dsimp only at hSw); go_simp; with_reducible rfl)
    try simp only [Act.put, List.setIfInBounds_toArray, List.set_cons_zero, List.set_cons_succ, List.getElem_toArray, List.getElem_cons_succ, List.getElem_cons_zero]
    refine wpAnyH_take (i := 12) (oi := _) (v := ?_) rfl (by kernel_rfl) (by kernel_rfl) (by kernel_rfl) (fun _ _ _ h => h) (Or.inl ⟨by rfl, ?_⟩) (by assumption) ?_
    rotate_left
    · first | (intro w hSw; (try dsimp only at hSw); go_simp; done) | (intro w hSw; (try dsimp only at hSw); go_simp; with_reducible rfl)
    try simp only [Act.put, List.setIfInBounds_toArray, List.set_cons_zero, List.set_cons_succ, List.getElem_toArray, List.getElem_cons_succ, List.getElem_cons_zero]
    refine wpAnyH_take (i := 14) (oi := _) (v := ?_) rfl (by kernel_rfl) (by kernel_rfl) (by kernel_rfl) (fun _ _ _ h => h) (Or.inl ⟨by rfl, ?_⟩) (by assumption) ?_
    rotate_left
    · first | (intro w hSw; (try dsimp only at hSw); go_simp; done) | (intro w hSw; (try dsimp only at hSw); go_simp; with_reducible rfl)
    try simp only [Act.put, List.setIfInBounds_toArray, List.set_cons_zero, List.set_cons_succ, List.getElem_toArray, List.getElem_cons_succ, List.getElem_cons_zero]
    clear hfd
    refine wpAnyH_ready (rs := [13]) (by kernel_rfl) (by simp) ?_
    refine AllReadyH.cons rfl (fun K hK => ?_) AllReadyH.nil
    go_simp
    go_wp2_with (go_at_call 9; refine (SO.out _ BI.out).mono ?_; rintro e w13 ⟨vs13, vk13, cs13, rfl, oc13, eb13, b13⟩)
    have BJ := Lib.hid (BI.out.below b13)
    have YJ := Lib.hid (YI.out.below b13)
    have OJ := Lib.hid oc13
    have EJ := Lib.hid eb13
    clear oc13 eb13 b13
    refine hK.out _ _ ?_ (fun hHeld => ?_)
    · exact ⟨BJ.out.cells, YJ.out.cells⟩
    clear hK K
    refine wpAnyH_ready (rs := [15]) (by kernel_rfl) (by simp) ?_
    refine AllReadyH.cons rfl (fun K hK => ?_) AllReadyH.nil
    go_simp
    go_wp2_with (go_at_call 10; refine (SCT.out _ _ _ _ _ BJ.out OJ.out EJ.out).mono ?_; rintro e w14 ⟨rfl, b14⟩)
    have BK := Lib.hid (BJ.out.below b14)
    have YK := Lib.hid (YJ.out.below b14)
    clear b14
    refine hK.out _ _ ?_ (fun hHeld => ?_)
    · exact ⟨BK.out.cells, YK.out.cells⟩
    clear hK K
    refine wpAnyH_take (i := 16) (oi := _) (v := ?_) rfl (by kernel_rfl) (by kernel_rfl) (by kernel_rfl) (fun _ _ _ h => h) (Or.inl ⟨by rfl, ?_⟩) (by assumption) ?_
    rotate_left
    · first | (intro w hSw; (try dsimp only at hSw); go_simp; done) | (intro w hSw; (try dsimp only at hSw); go_simp; with_reducible rfl)
    try simp only [Act.put, List.setIfInBounds_toArray, List.set_cons_zero, List.set_cons_succ, List.getElem_toArray, List.getElem_cons_succ, List.getElem_cons_zero]
    refine wpAnyH_take (i := 17) (oi := _) (v := ?_) rfl (by kernel_rfl) (by kernel_rfl) (by kernel_rfl) (fun _ _ _ h => h) (Or.inl ⟨by rfl, ?_⟩) (by assumption) ?_
    rotate_left
    · first | (intro w hSw; (try dsimp only at hSw); go_simp; done) | (intro w hSw; (try dsimp only at hSw); go_simp; with_reducible rfl)
    try simp only [Act.put, List.setIfInBounds_toArray, List.set_cons_zero, List.set_cons_succ, List.getElem_toArray, List.getElem_cons_succ, List.getElem_cons_zero]
    refine wpAnyH_done (by kernel_rfl) ?_ _
    have BL := Lib.hid BK.out.drew
    go_wp2_with fail
    refine wp_region_held_drew (S := fun W => b3 < W.heap.size ∧ W.cell? ⟨b3, 0, none⟩ = some (.slice sl1 rn cap1) ∧ W.cell? ⟨b3, 1, none⟩ = some (.slice sl2 pn cap2)) (by kernel_rfl) ?_ (fun hHeld => ?_)
    · exact BL.out.cells
    generalize w14.drew = wl at *
    refine wpAnyH_take (i := 0) (oi := _) (v := ?_) rfl (by kernel_rfl) (by kernel_rfl) (by kernel_rfl) (fun _ _ _ h => h) (Or.inl ⟨by rfl, ?_⟩) (by assumption) ?_
    rotate_left
    · first | (intro w hSw; (try dsimp only at hSw); go_simp; done) | (intro w hSw; (try dsimp only at hSw); go_simp; with_reducible rfl)
    try simp only [Act.put, List.setIfInBounds_toArray, List.set_cons_zero, List.set_cons_succ, List.getElem_toArray, List.getElem_cons_zero]
    refine wpAnyH_take (i := 1) (oi := _) (v := ?_) rfl (by kernel_rfl) (by kernel_rfl) (by kernel_rfl) (fun _ _ _ h => h) (Or.inl ⟨by rfl, ?_⟩) (by assumption) ?_
    rotate_left
    · first | (intro w hSw; (try dsimp only at hSw); go_simp; done) | (intro w hSw; (try dsimp only at hSw); go_simp; with_reducible rfl)
    try simp only [Act.put, List.setIfInBounds_toArray, List.set_cons_zero, List.set_cons_succ, List.getElem_toArray, List.getElem_cons_succ, List.getElem_cons_zero]
    refine wpAnyH_take (i := 2) (oi := _) (v := ?_) rfl (by kernel_rfl) (by kernel_rfl) (by kernel_rfl) (fun _ _ _ h => h) (Or.inl ⟨by rfl, ?_⟩) (by assumption) ?_
    rotate_left
    · first | (intro w hSw; (try dsimp only at hSw); go_simp; done) | (intro w hSw; (try dsimp only at hSw); go_simp; with_reducible rfl)
    try simp only [Act.put, List.setIfInBounds_toArray, List.set_cons_zero, List.set_cons_succ, List.getElem_toArray, List.getElem_cons_succ, List.getElem_cons_zero]
    refine wpAnyH_take (i := 4) (oi := _) (v := ?_) rfl (by kernel_rfl) (by kernel_rfl) (by kernel_rfl) (fun _ _ _ h => h) (Or.inl ⟨by rfl, ?_⟩) (by assumption) ?_
    rotate_left
    · first | (intro w hSw; (try dsimp only at hSw); go_simp; done) | (intro w hSw; (try dsimp only at hSw); go_simp; with_reducible rfl)
    try simp only [Act.put, List.setIfInBounds_toArray, List.set_cons_zero, List.set_cons_succ, List.getElem_toArray, List.getElem_cons_succ, List.getElem_cons_zero]
    refine wpAnyH_ready (rs := [3]) (by kernel_rfl) (by simp) ?_
    refine AllReadyH.cons rfl (fun K hK => ?_) AllReadyH.nil
    go_simp
    go_wp2_with (go_at_call 7; refine (LI.out _ BL.out).mono ?_; rintro e w15 ⟨s15, k15, rfl, q15, b15⟩)
    have BM := Lib.hid (BL.out.below b15)
    have QM := Lib.hid q15
    clear q15 b15
    refine hK.out _ _ ?_ (fun hHeld => ?_)
    · exact BM.out.cells
    clear hK K
    refine wpAnyH_ready (rs := [5]) (by kernel_rfl) (by simp) ?_
    refine AllReadyH.cons rfl (fun K hK => ?_) AllReadyH.nil
    go_simp
    go_wp2_with (go_at_call 7; refine (LT.out _ BM.out).mono ?_; rintro e w16 ⟨s16, k16, rfl, q16, b16⟩)
    have BN := Lib.hid (BM.out.below b16)
    have QN := Lib.hid (own_below QM.out b16)
    have QT := Lib.hid q16
    clear q16 b16
    refine hK.out _ _ ?_ (fun hHeld => ?_)
    · exact BN.out.cells
    clear hK K
    refine wpAnyH_ready (rs := [6]) (by kernel_rfl) (by simp) ?_
    refine AllReadyH.cons rfl (fun K hK => ?_) AllReadyH.nil
    go_simp
    go_wp2_with (go_at_call 11; refine (PO.out _ _ _ _ _ _ _ BN.out QN.out QT.out).mono ?_; rintro e w17 ⟨sp, kp, rfl, qp, b17⟩)
    have BO := Lib.hid (BN.out.below b17)
    have QP := Lib.hid qp
    clear qp b17
    refine hK.out _ _ ?_ (fun hHeld => ?_)
    · exact BO.out.cells
    clear hK K
    refine wpAnyH_take (i := 7) (oi := _) (v := ?_) rfl (by kernel_rfl) (by kernel_rfl) (by kernel_rfl) (fun _ _ _ h => h) (Or.inl ⟨by rfl, ?_⟩) (by assumption) ?_
    rotate_left
    · first | (intro w hSw; (try dsimp only at hSw); go_simp; done) | (intro w hSw; (try dsimp only at hSw); go_simp; with_reducible rfl)
    try simp only [Act.put, List.setIfInBounds_toArray, List.set_cons_zero, List.set_cons_succ, List.getElem_toArray, List.getElem_cons_succ, List.getElem_cons_zero]
    refine wpAnyH_done (by kernel_rfl) ?_ _
    by_cases h0 : inn = 0
    · have h0' : ((inn : Int) == 0) = true := by rw [h0]; rfl
      have hok := OKN.out h0
      by_cases ht0 : tn = 0
      · have ht0' : ((tn : Int) == 0) = true := by rw [ht0]; rfl
        rw [decide_eq_true ht0] at hok
        subst hok
        go_wp2
        go_ret
        exact ⟨rfl, BO.out.bel⟩
      · have ht0' : ((tn : Int) == 0) = false := beq_eq_false_iff_ne.2 (by omega)
        rw [decide_eq_false ht0] at hok
        subst hok
        go_wp2
        go_ret
        exact ⟨rfl, BO.out.bel⟩
    · have h0' : ((inn : Int) == 0) = false := beq_eq_false_iff_ne.2 (by omega)
      have OKE := Lib.hid (OKE0.out h0)
      clear OKN OKE0
      have BQ := Lib.hid BO.out.drew
      have QQ : Hid (w17.drew.ownsRow _ 64 2 (.slice sp pln kp) pln ecs) := own_below QP.out (Below.refl _ _).drew
      by_cases heq : pln = inn
      · have hee : ((pln : Int) == (inn : Int)) = true := by rw [heq]; simp
        have hok := OKE.out.1 heq
        clear heq
        go_wp2_with fail
        refine wp_region_held_drew (S := fun W => b3 < W.heap.size ∧ W.cell? ⟨b3, 0, none⟩ = some (.slice sl1 rn cap1) ∧ W.cell? ⟨b3, 1, none⟩ = some (.slice sl2 pn cap2)) (by kernel_rfl) ?_ (fun hHeld => ?_)
        · exact BQ.out.cells
        generalize w17.drew = wq at *
        refine wpAnyH_take (i := 0) (oi := _) (v := ?_) rfl (by kernel_rfl) (by kernel_rfl) (by kernel_rfl) (fun _ _ _ h => h) (Or.inl ⟨by rfl, ?_⟩) (by assumption) ?_
        rotate_left
        · first | (intro w hSw; (try dsimp only at hSw); go_simp; done) | (intro w hSw; (try dsimp only at hSw); go_simp; with_reducible rfl)
        try simp only [Act.put, List.setIfInBounds_toArray, List.set_cons_zero, List.set_cons_succ, List.getElem_toArray, List.getElem_cons_zero]
        refine wpAnyH_take (i := 1) (oi := _) (v := ?_) rfl (by kernel_rfl) (by kernel_rfl) (by kernel_rfl) (fun _ _ _ h => h) (Or.inl ⟨by rfl, ?_⟩) (by assumption) ?_
        rotate_left
        · first | (intro w hSw; (try dsimp only at hSw); go_simp; done) | (intro w hSw; (try dsimp only at hSw); go_simp; with_reducible rfl)
        try simp only [Act.put, List.setIfInBounds_toArray, List.set_cons_zero, List.set_cons_succ, List.getElem_toArray, List.getElem_cons_succ, List.getElem_cons_zero]
        refine wpAnyH_take (i := 2) (oi := _) (v := ?_) rfl (by kernel_rfl) (by kernel_rfl) (by kernel_rfl) (fun _ _ _ h => h) (Or.inl ⟨by rfl, ?_⟩) (by assumption) ?_
        rotate_left
        · first | (intro w hSw; (try dsimp only at hSw); go_simp; done) | (intro w hSw; (try dsimp only at hSw); go_simp; with_reducible rfl)
        try simp only [Act.put, List.setIfInBounds_toArray, List.set_cons_zero, List.set_cons_succ, List.getElem_toArray, List.getElem_cons_succ, List.getElem_cons_zero]
        refine wpAnyH_take (i := 3) (oi := _) (v := ?_) rfl (by kernel_rfl) (by kernel_rfl) (by kernel_rfl) (fun _ _ _ h => h) (Or.inl ⟨by rfl, ?_⟩) (by assumption) ?_
        rotate_left
        · first | (intro w hSw; (try dsimp only at hSw); go_simp; done) | (intro w hSw; (try dsimp only at hSw); go_simp; with_reducible rfl)
        try simp only [Act.put, List.setIfInBounds_toArray, List.set_cons_zero, List.set_cons_succ, List.getElem_toArray, List.getElem_cons_succ, List.getElem_cons_zero]
        refine wpAnyH_take (i := 4) (oi := _) (v := ?_) rfl (by kernel_rfl) (by kernel_rfl) (by kernel_rfl) (fun _ _ _ h => h) (Or.inl ⟨by rfl, ?_⟩) (by assumption) ?_
        rotate_left
        · first | (intro w hSw; (try dsimp only at hSw); go_simp; done) | (intro w hSw; (try dsimp only at hSw); go_simp; with_reducible rfl)
        try simp only [Act.put, List.setIfInBounds_toArray, List.set_cons_zero, List.set_cons_succ, List.getElem_toArray, List.getElem_cons_succ, List.getElem_cons_zero]
        refine wpAnyH_take (i := 5) (oi := _) (v := ?_) rfl (by kernel_rfl) (by kernel_rfl) (by kernel_rfl) (fun _ _ _ h => h) (Or.inl ⟨by rfl, ?_⟩) (by assumption) ?_
        rotate_left
        · first | (intro w hSw; (try dsimp only at hSw); go_simp; done) | (intro w hSw; (try dsimp only at hSw); go_simp; with_reducible rfl)
        try simp only [Act.put, List.setIfInBounds_toArray, List.set_cons_zero, List.set_cons_succ, List.getElem_toArray, List.getElem_cons_succ, List.getElem_cons_zero]
        refine wpAnyH_take (i := 6) (oi := _) (v := ?_) rfl (by kernel_rfl) (by kernel_rfl) (by kernel_rfl) (fun _ _ _ h => h) (Or.inl ⟨by rfl, ?_⟩) (by assumption) ?_
        rotate_left
        · first | (intro w hSw; (try dsimp only at hSw); go_simp; done) | (intro w hSw; (try dsimp only at hSw); go_simp; with_reducible rfl)
        try simp only [Act.put, List.setIfInBounds_toArray, List.set_cons_zero, List.set_cons_succ, List.getElem_toArray, List.getElem_cons_succ, List.getElem_cons_zero]
        refine wpAnyH_take (i := 7) (oi := _) (v := ?_) rfl (by kernel_rfl) (by kernel_rfl) (by kernel_rfl) (fun _ _ _ h => h) (Or.inl ⟨by rfl, ?_⟩) (by assumption) ?_
        rotate_left
        · first | (intro w hSw; (try dsimp only at hSw); go_simp; done) | (intro w hSw; (try dsimp only at hSw); go_simp; with_reducible rfl)
        try simp only [Act.put, List.setIfInBounds_toArray, List.set_cons_zero, List.set_cons_succ, List.getElem_toArray, List.getElem_cons_succ, List.getElem_cons_zero]
        refine wpAnyH_take (i := 8) (oi := _) (v := ?_) rfl (by kernel_rfl) (by kernel_rfl) (by kernel_rfl) (fun _ _ _ h => h) (Or.inl ⟨by rfl, ?_⟩) (by assumption) ?_
        rotate_left
        · first | (intro w hSw; (try dsimp only at hSw); go_simp; done) | (intro w hSw; (try dsimp only at hSw); go_simp; with_reducible rfl)
        try simp only [Act.put, List.setIfInBounds_toArray, List.set_cons_zero, List.set_cons_succ, List.getElem_toArray, List.getElem_cons_succ, List.getElem_cons_zero]
        refine wpAnyH_take (i := 9) (oi := _) (v := ?_) rfl (by kernel_rfl) (by kernel_rfl) (by kernel_rfl) (fun _ _ _ h => h) (Or.inl ⟨by rfl, ?_⟩) (by assumption) ?_
        rotate_left
        · first | (intro w hSw; (try dsimp only at hSw); go_simp; done) | (intro w hSw; (try dsimp only at hSw); go_simp; with_reducible rfl)
        try simp only [Act.put, List.setIfInBounds_toArray, List.set_cons_zero, List.set_cons_succ, List.getElem_toArray, List.getElem_cons_succ, List.getElem_cons_zero]
        refine wpAnyH_ready (rs := [10]) (by kernel_rfl) (by simp) ?_
        refine AllReadyH.cons rfl (fun K hK => ?_) AllReadyH.nil
        go_simp
        go_wp2_with (go_at_call 13; refine (LP.out _ _ _ _ QQ.out).mono ?_; rintro e w18 ⟨s18, k18, rfl, q18, b18⟩)
        have BR := Lib.hid (BQ.out.below b18)
        have QR := Lib.hid q18
        clear q18 b18
        refine hK.out _ _ ?_ (fun hHeld => ?_)
        · exact BR.out.cells
        clear hK K
        refine wpAnyH_ready (rs := [11]) (by kernel_rfl) (by simp) ?_
        refine AllReadyH.cons rfl (fun K hK => ?_) AllReadyH.nil
        go_simp
        go_wp2_with (go_at_call 12; refine (PR.out _ _ _ _ BR.out QR.out).mono ?_; rintro e w19 ⟨rfl, b19⟩)
        have BS9 := Lib.hid (BR.out.below b19)
        clear b19
        refine hK.out _ _ ?_ (fun hHeld => ?_)
        · exact BS9.out.cells
        clear hK K
        refine wpAnyH_take (i := 12) (oi := _) (v := ?_) rfl (by kernel_rfl) (by kernel_rfl) (by kernel_rfl) (fun _ _ _ h => h) (Or.inl ⟨by rfl, ?_⟩) (by assumption) ?_
        rotate_left
        · first | (intro w hSw; (try dsimp only at hSw); go_simp; done) | (intro w hSw; (try dsimp only at hSw); go_simp; with_reducible rfl)
        try simp only [Act.put, List.setIfInBounds_toArray, List.set_cons_zero, List.set_cons_succ, List.getElem_toArray, List.getElem_cons_succ, List.getElem_cons_zero]
        refine wpAnyH_take (i := 13) (oi := _) (v := ?_) rfl (by kernel_rfl) (by kernel_rfl) (by kernel_rfl) (fun _ _ _ h => h) (Or.inl ⟨by rfl, ?_⟩) (by assumption) ?_
        rotate_left
        · first | (intro w hSw; (try dsimp only at hSw); go_simp; done) | (intro w hSw; (try dsimp only at hSw); go_simp; with_reducible rfl)
        try simp only [Act.put, List.setIfInBounds_toArray, List.set_cons_zero, List.set_cons_succ, List.getElem_toArray, List.getElem_cons_succ, List.getElem_cons_zero]
        refine wpAnyH_take (i := 14) (oi := _) (v := ?_) rfl (by kernel_rfl) (by kernel_rfl) (by kernel_rfl) (fun _ _ _ h => h) (Or.inl ⟨by rfl, ?_⟩) (by assumption) ?_
        rotate_left
        · first | (intro w hSw; (try dsimp only at hSw); go_simp; done) | (intro w hSw; (try dsimp only at hSw); go_simp; with_reducible rfl)
        try simp only [Act.put, List.setIfInBounds_toArray, List.set_cons_zero, List.set_cons_succ, List.getElem_toArray, List.getElem_cons_succ, List.getElem_cons_zero]
        refine wpAnyH_done (by kernel_rfl) ?_ _
        go_wp2
        go_ret
        exact ⟨by first | rfl | (rw [hok]; simp), BS9.out.bel⟩
      · have hee : ((pln : Int) == (inn : Int)) = false := beq_eq_false_iff_ne.2 (by omega)
        have hok := OKE.out.2 heq
        go_wp2_with fail
        refine wp_region_held_drew (S := fun W => b3 < W.heap.size ∧ W.cell? ⟨b3, 0, none⟩ = some (.slice sl1 rn cap1) ∧ W.cell? ⟨b3, 1, none⟩ = some (.slice sl2 pn cap2)) (by kernel_rfl) ?_ (fun hHeld => ?_)
        · exact BQ.out.cells
        generalize w17.drew = wq at *
        refine wpAnyH_take (i := 0) (oi := _) (v := ?_) rfl (by kernel_rfl) (by kernel_rfl) (by kernel_rfl) (fun _ _ _ h => h) (Or.inl ⟨by rfl, ?_⟩) (by assumption) ?_
        rotate_left
        · first | (intro w hSw; (try dsimp only at hSw); go_simp; done) | (intro w hSw; (try dsimp only at hSw); go_simp; with_reducible rfl)
        try simp only [Act.put, List.setIfInBounds_toArray, List.set_cons_zero, List.set_cons_succ, List.getElem_toArray, List.getElem_cons_zero]
        refine wpAnyH_take (i := 1) (oi := _) (v := ?_) rfl (by kernel_rfl) (by kernel_rfl) (by kernel_rfl) (fun _ _ _ h => h) (Or.inl ⟨by rfl, ?_⟩) (by assumption) ?_
        rotate_left
        · first | (intro w hSw; (try dsimp only at hSw); go_simp; done) | (intro w hSw; (try dsimp only at hSw); go_simp; with_reducible rfl)
        try simp only [Act.put, List.setIfInBounds_toArray, List.set_cons_zero, List.set_cons_succ, List.getElem_toArray, List.getElem_cons_succ, List.getElem_cons_zero]
        refine wpAnyH_take (i := 2) (oi := _) (v := ?_) rfl (by kernel_rfl) (by kernel_rfl) (by kernel_rfl) (fun _ _ _ h => h) (Or.inl ⟨by rfl, ?_⟩) (by assumption) ?_
        rotate_left
        · first | (intro w hSw; (try dsimp only at hSw); go_simp; done) | (intro w hSw; (try dsimp only at hSw); go_simp; with_reducible rfl)
        try simp only [Act.put, List.setIfInBounds_toArray, List.set_cons_zero, List.set_cons_succ, List.getElem_toArray, List.getElem_cons_succ, List.getElem_cons_zero]
        refine wpAnyH_take (i := 3) (oi := _) (v := ?_) rfl (by kernel_rfl) (by kernel_rfl) (by kernel_rfl) (fun _ _ _ h => h) (Or.inl ⟨by rfl, ?_⟩) (by assumption) ?_
        rotate_left
        · first | (intro w hSw; (try dsimp only at hSw); go_simp; done) | (intro w hSw; (try dsimp only at hSw); go_simp; with_reducible rfl)
        try simp only [Act.put, List.setIfInBounds_toArray, List.set_cons_zero, List.set_cons_succ, List.getElem_toArray, List.getElem_cons_succ, List.getElem_cons_zero]
        refine wpAnyH_take (i := 4) (oi := _) (v := ?_) rfl (by kernel_rfl) (by kernel_rfl) (by kernel_rfl) (fun _ _ _ h => h) (Or.inl ⟨by rfl, ?_⟩) (by assumption) ?_
        rotate_left
        · first | (intro w hSw; (try dsimp only at hSw); go_simp; done) | (intro w hSw; (try dsimp only at hSw); go_simp; with_reducible rfl)
        try simp only [Act.put, List.setIfInBounds_toArray, List.set_cons_zero, List.set_cons_succ, List.getElem_toArray, List.getElem_cons_succ, List.getElem_cons_zero]
        refine wpAnyH_take (i := 5) (oi := _) (v := ?_) rfl (by kernel_rfl) (by kernel_rfl) (by kernel_rfl) (fun _ _ _ h => h) (Or.inl ⟨by rfl, ?_⟩) (by assumption) ?_
        rotate_left
        · first | (intro w hSw; (try dsimp only at hSw); go_simp; done) | (intro w hSw; (try dsimp only at hSw); go_simp; with_reducible rfl)
        try simp only [Act.put, List.setIfInBounds_toArray, List.set_cons_zero, List.set_cons_succ, List.getElem_toArray, List.getElem_cons_succ, List.getElem_cons_zero]
        refine wpAnyH_take (i := 6) (oi := _) (v := ?_) rfl (by kernel_rfl) (by kernel_rfl) (by kernel_rfl) (fun _ _ _ h => h) (Or.inl ⟨by rfl, ?_⟩) (by assumption) ?_
        rotate_left
        · first | (intro w hSw; (try dsimp only at hSw); go_simp; done) | (intro w hSw; (try dsimp only at hSw); go_simp; with_reducible rfl)
        try simp only [Act.put, List.setIfInBounds_toArray, List.set_cons_zero, List.set_cons_succ, List.getElem_toArray, List.getElem_cons_succ, List.getElem_cons_zero]
        refine wpAnyH_take (i := 7) (oi := _) (v := undef) rfl (by kernel_rfl) (by kernel_rfl) (by kernel_rfl) (fun _ _ _ h => h) (Or.inr ⟨by rfl, rfl⟩) (by assumption) ?_
        try simp only [Act.put, List.setIfInBounds_toArray, List.set_cons_zero, List.set_cons_succ, List.getElem_toArray, List.getElem_cons_succ, List.getElem_cons_zero]
        refine wpAnyH_take (i := 8) (oi := _) (v := undef) rfl (by kernel_rfl) (by kernel_rfl) (by kernel_rfl) (fun _ _ _ h => h) (Or.inr ⟨by rfl, rfl⟩) (by assumption) ?_
        try simp only [Act.put, List.setIfInBounds_toArray, List.set_cons_zero, List.set_cons_succ, List.getElem_toArray, List.getElem_cons_succ, List.getElem_cons_zero]
        refine wpAnyH_take (i := 9) (oi := _) (v := undef) rfl (by kernel_rfl) (by kernel_rfl) (by kernel_rfl) (fun _ _ _ h => h) (Or.inr ⟨by rfl, rfl⟩) (by assumption) ?_
        try simp only [Act.put, List.setIfInBounds_toArray, List.set_cons_zero, List.set_cons_succ, List.getElem_toArray, List.getElem_cons_succ, List.getElem_cons_zero]
        refine wpAnyH_take (i := 10) (oi := _) (v := undef) rfl (by kernel_rfl) (by kernel_rfl) (by kernel_rfl) (fun _ _ _ h => h) (Or.inr ⟨by rfl, rfl⟩) (by assumption) ?_
        try simp only [Act.put, List.setIfInBounds_toArray, List.set_cons_zero, List.set_cons_succ, List.getElem_toArray, List.getElem_cons_succ, List.getElem_cons_zero]
        refine wpAnyH_take (i := 11) (oi := _) (v := undef) rfl (by kernel_rfl) (by kernel_rfl) (by kernel_rfl) (fun _ _ _ h => h) (Or.inr ⟨by rfl, rfl⟩) (by assumption) ?_
        try simp only [Act.put, List.setIfInBounds_toArray, List.set_cons_zero, List.set_cons_succ, List.getElem_toArray, List.getElem_cons_succ, List.getElem_cons_zero]
        refine wpAnyH_take (i := 12) (oi := _) (v := ?_) rfl (by kernel_rfl) (by kernel_rfl) (by kernel_rfl) (fun _ _ _ h => h) (Or.inl ⟨by rfl, ?_⟩) (by assumption) ?_
        rotate_left
        · first | (intro w hSw; (try dsimp only at hSw); go_simp; done) | (intro w hSw; (try dsimp only at hSw); go_simp; with_reducible rfl)
        try simp only [Act.put, List.setIfInBounds_toArray, List.set_cons_zero, List.set_cons_succ, List.getElem_toArray, List.getElem_cons_succ, List.getElem_cons_zero]
        refine wpAnyH_take (i := 13) (oi := _) (v := ?_) rfl (by kernel_rfl) (by kernel_rfl) (by kernel_rfl) (fun _ _ _ h => h) (Or.inl ⟨by rfl, ?_⟩) (by assumption) ?_
        rotate_left
        · first | (intro w hSw; (try dsimp only at hSw); go_simp; done) | (intro w hSw; (try dsimp only at hSw); go_simp; with_reducible rfl)
        try simp only [Act.put, List.setIfInBounds_toArray, List.set_cons_zero, List.set_cons_succ, List.getElem_toArray, List.getElem_cons_succ, List.getElem_cons_zero]
        refine wpAnyH_take (i := 14) (oi := _) (v := ?_) rfl (by kernel_rfl) (by kernel_rfl) (by kernel_rfl) (fun _ _ _ h => h) (Or.inl ⟨by rfl, ?_⟩) (by assumption) ?_
        rotate_left
        · first | (intro w hSw; (try dsimp only at hSw); go_simp; done) | (intro w hSw; (try dsimp only at hSw); go_simp; with_reducible rfl)
        try simp only [Act.put, List.setIfInBounds_toArray, List.set_cons_zero, List.set_cons_succ, List.getElem_toArray, List.getElem_cons_succ, List.getElem_cons_zero]
        refine wpAnyH_done (by kernel_rfl) ?_ _
        go_wp2
        go_ret
        exact ⟨by first | rfl | (rw [hok]; simp), BQ.out.bel⟩

end Go.Proofs.Ytaogkdhloogmhaa
