/-
  THE LAW OF UNITS: the walk.
-/
import Derived.Test.YtoobcodlgajieaaDoorKUaf
import Derived.Test.YtoobcodlgajieaaDoorKZai
import Derived.Test.YtoobcodlgajieaaDoorKIb
namespace Go.Proofs.YtoobcodlgajieaaDoor
open Go.RowKit
set_option linter.unusedVariables false
set_option linter.unusedSimpArgs false

/-- What was drawn. -/
structure UW (w : World) (b3 : Nat) (vars : Int) (vs : Option Addr) (n vk : Nat) (cs : List LCl) (s : Option Addr) (ms : List LCl) (ts : Option Addr) (T0 : List Int) (W : World) : Prop where
  bel : Below w.heap.size w W
  arg : W.heap[b3]? = some (.cells #[.int .i64 vars, .slice vs n vk] 25)
  c : Cls W vs cs
  d : Cls W s ms
  t : Ints W ts T0
section
variable {w : World} {b3 : Nat} {vars : Int} {vs : Option Addr} {n vk : Nat} {cs : List LCl} {s : Option Addr} {ms : List LCl} {ts : Option Addr} {T0 : List Int} {W W' : World}
theorem UW.below (h : UW w b3 vars vs n vk cs s ms ts T0 W) (hb : Below W.heap.size W W') : UW w b3 vars vs n vk cs s ms ts T0 W' :=
  ⟨bT h.bel hb, (hb.block _ (Array.getElem?_eq_some_iff.1 h.arg).1).trans h.arg, h.c.below hb, h.d.below hb, h.t.below hb⟩
theorem UW.cells (h : UW w b3 vars vs n vk cs s ms ts T0 W) : b3 < W.heap.size ∧ W.cell? ⟨b3, 0, none⟩ = some (.int .i64 vars) ∧ W.cell? ⟨b3, 1, none⟩ = some (.slice vs n vk) := by
  have ha := h.arg
  exact ⟨(Array.getElem?_eq_some_iff.1 ha).1, by simp [World.cell?, ha], by simp [World.cell?, ha]⟩
theorem UW.drew (h : UW w b3 vars vs n vk cs s ms ts T0 W) : UW w b3 vars vs n vk cs s ms ts T0 W.drew := h.below (Below.refl _ _).drew
end
/-- An answer, in its box. -/
structure UN (b : Nat) (s : Option Addr) (tn k : Nat) (conf cd : Int) (zv : List Value) (W : World) : Prop where
  own : ∃ B, W.ownsRow B 2 1 (.slice s tn k) tn zv
  box : W.heap[b]? = some (.cells #[.slice s tn k, .int .i64 conf, .int .i64 cd] 30)
section
variable {b : Nat} {s : Option Addr} {tn k : Nat} {conf cd : Int} {zv : List Value} {W W' : World}
theorem UN.below (h : UN b s tn k conf cd zv W) (hb : Below W.heap.size W W') : UN b s tn k conf cd zv W' := by
  obtain ⟨B, h1⟩ := h.own
  exact ⟨⟨B, own_below h1 hb⟩, (hb.block b (Array.getElem?_eq_some_iff.1 h.box).1).trans h.box⟩
theorem UN.drew (h : UN b s tn k conf cd zv W) : UN b s tn k conf cd zv W.drew := h.below (Below.refl _ _).drew
theorem UN.facts (h : UN b s tn k conf cd zv W) : b < W.heap.size ∧ W.cell? ⟨b, 0, none⟩ = some (.slice s tn k) ∧ W.cell? ⟨b, 1, none⟩ = some (.int .i64 conf) ∧ W.cell? ⟨b, 2, none⟩ = some (.int .i64 cd) := box3 h.box
theorem UN.two (h : UN b s tn k conf cd zv W) : b < W.heap.size ∧ W.cell? ⟨b, 0, none⟩ = some (.slice s tn k) := ⟨h.facts.1, h.facts.2.1⟩
theorem UN.cap (h : UN b s tn k conf cd zv W) : tn ≤ k := by
  obtain ⟨B, h1⟩ := h.own
  exact own_cap8 h1
end
/-- The answer of the model, in its box. -/
def BoxA (W : World) (b : Nat) (s : Option Addr) (tn k : Nat) (conf cd : Int) : Prop := W.heap[b]? = some (.cells #[.slice s tn k, .int .i64 conf, .int .i64 cd] 30)
theorem BoxA.lt {W : World} {b : Nat} {s : Option Addr} {tn k : Nat} {conf cd : Int} (h : BoxA W b s tn k conf cd) : b < W.heap.size := (Array.getElem?_eq_some_iff.1 h).1
theorem BoxA.below {W W' : World} {b : Nat} {s : Option Addr} {tn k : Nat} {conf cd : Int} (h : BoxA W b s tn k conf cd) (hb : Below W.heap.size W W') : BoxA W' b s tn k conf cd := (hb.block b h.lt).trans h
/-- Block b came next behind world u. -/
def Fr (u : World) (b : Nat) (W : World) : Prop := u.heap.size = b ∧ Below u.heap.size u W
theorem Fr.below {u W W' : World} {b : Nat} (h : Fr u b W) (hb : Below W.heap.size W W') : Fr u b W' := ⟨h.1, bT h.2 hb⟩
theorem UW.fr {w : World} {b3 : Nat} {vars : Int} {vs : Option Addr} {n vk : Nat} {cs : List LCl} {s : Option Addr} {ms : List LCl} {ts : Option Addr} {T0 : List Int} {u W W' : World} {b : Nat} (h : UW w b3 vars vs n vk cs s ms ts T0 u) (f : Fr u b W) (ho : Only b W W') : UW w b3 vars vs n vk cs s ms ts T0 W' :=
  h.below (ho.below f.2 (by rw [f.1]; exact Nat.le_refl _))
theorem ints_front {W : World} {s : Option Addr} {a b : List Int} (h : Ints W s (a ++ b)) : Ints W s a := by
  rcases h with h | ⟨c, o, e, h1, h2⟩
  · exact .inl (List.append_eq_nil_iff.1 h).1
  · refine .inr ⟨c, o, e, h1, fun i hi => ?_⟩
    have hi' : i < (a ++ b).length := by rw [List.length_append]; omega
    rw [h2 i hi', List.getD_eq_getElem?_getD, List.getD_eq_getElem?_getD, List.getElem?_append_left hi]
theorem tot_of {m : Nat} : ∀ l : List LCl, (∀ r ∈ l, r.2.length ≤ m) → totC l ≤ m * l.length
  | [], _ => by simp [totC]
  | r :: t, h => by
    have h1 := tot_of t (fun s hs => h s (by simp [hs]))
    have h2 := h r (by simp)
    have e : totC (r :: t) = r.2.length + totC t := by simp [totC]
    rw [e, List.length_cons, Nat.mul_succ]
    omega

set_option maxRecDepth 100000 in
set_option maxHeartbeats 16000000 in
theorem law3_ofD (sl : Option Addr) (len cap : Nat) (w : World) (hl : len ≤ maxLen) (DS : Calls Tryd.prog 9 #[.slice sl len cap] w (DuP w)) (hTB : TabB w) :
    Calls Tryd.prog 3 #[.slice sl len cap] w fun e w' => e = .returned (.bool true) ∧ Below w.heap.size w w' := by
  unfold maxLen at hl
  by_cases hz : 1048576 < len
  · have hz' : (1048576 : Int) < (len : Int) := by omega
    clear DS
    go_enter Tryd.func3, Tryd.ntmps3
    go_wp2
    go_ret
    exact ⟨rfl, Below.refl _ _⟩
  have hz' : ¬ (1048576 : Int) < (len : Int) := by omega
  have DS' := Lib.hid DS
  clear DS
  go_enter Tryd.func3, Tryd.ntmps3
  go_wp2_with fail
  refine DS'.out.mono ?_
  rintro e w1 ⟨vars, vs, vk, cs, s, sk, ms, ts, tk, T0, rfl, hsm, hl5, hlm, htb, hcs, hms, hti, bel⟩
  clear DS' hz hz' hl
  have hwf : WfC cs := fun r hr z hz => wf_in (by have := (hsm r hr).2 z hz; omega) (by have := (hsm r hr).2 z hz; omega)
  have htot : totC cs ≤ 1048576 := by have := tot_of cs (fun r hr => (hsm r hr).1); omega
  have htot2 : totC ms ≤ 1048576 := by have := tot_of ms (fun r hr => (hlm.2 r hr).1); have := hlm.1; omega
  have hlits : ∀ l ∈ bareC cs, ∀ z ∈ l, wfI z := fun l hl z hz => by
    obtain ⟨r, hr, rfl⟩ := List.mem_map.1 hl
    exact hwf r hr z hz
  have hm1 := hlm.1
  have ht1 := htb.1
  have SU : Hid (∀ W, UW w w1.heap.size vars vs cs.length vk cs s ms ts T0 W → Calls Tryd.prog 10 #[CV vars vs cs.length vk, .slice s ms.length sk, .slice ts T0.length tk] W (UPost W (uAll vars (bareC cs) (bareC ms) T0))) := fun W h => sur_any vars vs vk cs s sk ms ts tk T0 W (by unfold maxLen; omega) (by unfold maxLen; omega) (by omega) htot htot2 hwf h.c h.d h.t
  have IU0 : Hid (∀ W s' k', UW w w1.heap.size vars vs cs.length vk cs s ms ts T0 W → Ints W s' T0 → Calls Tryd.prog 11 #[CV vars vs cs.length vk, .slice s ms.length sk, .slice s' T0.length k'] W (UPost W (uAll vars (bareC cs) (bareC ms) T0))) := fun W s' k' h hi => iur_any vars vs vk cs s sk ms s' k' T0 W (by unfold maxLen; omega) (by unfold maxLen; omega) (by unfold maxLen; omega) hwf h.c h.d hi (hTB.belowT h.bel)
  have RO0 : Hid ((uAll vars (bareC cs) (bareC ms) T0).2.2 = 0 → RunOk vars (bareC cs) (bareC ms) T0 (uAll vars (bareC cs) (bareC ms) T0).1 (uAll vars (bareC cs) (bareC ms) T0).2.1) := fun h => run_ok hlits h
  have HT : (uAll vars (bareC cs) (bareC ms) T0).1.length ≤ 400 := by
    by_cases h : (uAll vars (bareC cs) (bareC ms) T0).2.2 = 0
    · exact (RO0.out h).right.1
    · by_cases hb : UBig (bareC ms) T0
      · rw [uAll_big hb]; simp
      · by_cases ho : UOk vars (bareC cs) (bareC ms) T0
        · rw [uAll_yes hb ho] at h; exact absurd rfl h
        · rw [uAll_no hb ho]; simp
  have B2 : Hid (UW w w1.heap.size vars vs cs.length vk cs s ms ts T0 (w1.alloc (.cells #[.int .i64 vars, .slice vs cs.length vk] 25))) := ⟨bT bel (bA0 _ _), new_at _ _, hcs.below (bA0 _ _), hms.below (bA0 _ _), hti.below (bA0 _ _)⟩
  have LW : Hid (∀ (k : Nat) (hk : k < (cs ++ ms).length) W, UW w w1.heap.size vars vs cs.length vk cs s ms ts T0 W → Calls Tryd.prog 15 #[CV vars vs cs.length vk, .slice s ms.length sk, .int .i64 (k : Int)] W (LcP (cs ++ ms)[k].2 W)) := fun k hk W h => lwcl_any vars vs vk cs s sk ms k W (by omega) (by omega) hk h.c h.d
  have TR1 : Hid (∀ (T : List Int) W s' k', T.length ≤ 400 → TrR vars (bareC cs) T → UW w w1.heap.size vars vs cs.length vk cs s ms ts T0 W → Ints W s' T → Calls Tryd.prog 14 #[CV vars vs cs.length vk, .slice s' T.length k'] W fun e w' => e = .returned (.bool true) ∧ Below W.heap.size W w') := fun T W s' k' hT hr h hi => by
    have := itr_any vars vs vk cs s' k' T W (by unfold maxLen; omega) (by unfold maxLen; omega) h.c hi
    rwa [B_yes hr] at this
  clear hwf htot htot2 hlits hsm hcs hms hti bel hTB
  generalize uAll vars (bareC cs) (bareC ms) T0 = R at *
  obtain ⟨T, conf, cd⟩ := R
  simp only at HT
  have OA : Hid (∀ W e w', UPost W (T, conf, cd) e w' → ∃ s k, e = .returned (.agg #[.slice s T.length k, .int .i64 conf, .int .i64 cd]) ∧ w'.ownsRow W.heap.size 2 1 (.slice s T.length k) T.length (valsZ T) ∧ Below W.heap.size W w') := fun W e w' h => by
    obtain ⟨v, rfl, o, b⟩ := h
    obtain ⟨s, k, rfl⟩ := own_v o
    exact ⟨s, k, rfl, o, b⟩
  have SU' : Hid (∀ W, UW w w1.heap.size vars vs cs.length vk cs s ms ts T0 W → Calls Tryd.prog 10 #[CV vars vs cs.length vk, .slice s ms.length sk, .slice ts T0.length tk] W fun e w' => ∃ s k, e = .returned (.agg #[.slice s T.length k, .int .i64 conf, .int .i64 cd]) ∧ w'.ownsRow W.heap.size 2 1 (.slice s T.length k) T.length (valsZ T) ∧ Below W.heap.size W w') := fun W h => (SU.out W h).mono (OA.out W)
  have LC0 : Hid (∀ W, UW w w1.heap.size vars vs cs.length vk cs s ms ts T0 W → Calls Tryd.prog 12 #[.slice ts T0.length tk] W fun e w' => ∃ s' k', e = .returned (.slice s' T0.length k') ∧ w'.ownsRow W.heap.size 2 1 (.slice s' T0.length k') T0.length (valsZ T0) ∧ Below W.heap.size W w') := fun W h => by
    refine (lwc_any ts tk T0 W (by omega) h.t).mono ?_
    rintro e w' ⟨v, rfl, o, b⟩
    obtain ⟨s', k', rfl⟩ := own_v o
    exact ⟨s', k', rfl, o, b⟩
  have IU : Hid (∀ (W : World) s' k' (B : Nat), UW w w1.heap.size vars vs cs.length vk cs s ms ts T0 W → W.ownsRow B 2 1 (.slice s' T0.length k') T0.length (valsZ T0) → Calls Tryd.prog 11 #[CV vars vs cs.length vk, .slice s ms.length sk, .slice s' T0.length k'] W fun e w' => ∃ s k, e = .returned (.agg #[.slice s T.length k, .int .i64 conf, .int .i64 cd]) ∧ w'.ownsRow W.heap.size 2 1 (.slice s T.length k) T.length (valsZ T) ∧ Below W.heap.size W w') := fun W s' k' B h o => by
    obtain ⟨s1, k1, e1, i1⟩ := own_ints o
    cases e1
    exact (IU0.out W s' k' h i1).mono (OA.out W)
  have LC : Hid (∀ (b : Nat) s k W, UN b s T.length k conf cd (valsZ T) W → Calls Tryd.prog 12 #[.slice s T.length k] W fun e w' => ∃ s' k', e = .returned (.slice s' T.length k') ∧ w'.ownsRow W.heap.size 2 1 (.slice s' T.length k') T.length (valsZ T) ∧ Below W.heap.size W w') := fun b s k W h => by
    obtain ⟨B, o⟩ := h.own
    obtain ⟨s1, k1, e1, i1⟩ := own_ints o
    cases e1
    refine (lwc_any s k T W (by omega) i1).mono ?_
    rintro e w' ⟨v, rfl, o, b⟩
    obtain ⟨s', k', rfl⟩ := own_v o
    exact ⟨s', k', rfl, o, b⟩
  have SM0 : Hid (cd = 0 → ∀ (b : Nat) s' k' W, UW w w1.heap.size vars vs cs.length vk cs s ms ts T0 W → UN b s' T.length k' conf cd (valsZ T) W → Calls Tryd.prog 13 #[.slice s' T0.length k', .slice ts T0.length tk] W fun e w' => e = .returned (.bool true) ∧ Below W.heap.size W w') := fun h0 b s' k' W h hn => by
    obtain ⟨fl, hf⟩ := (RO0.out h0).pre
    obtain ⟨B, o⟩ := hn.own
    obtain ⟨s1, k1, e1, i1⟩ := own_ints o
    cases e1
    simp only at hf
    rw [hf] at i1
    exact lws_any s' ts k' tk T0 W (by unfold maxLen; omega) (ints_front i1) h.t
  have TR0 : Hid (cd = 0 → ∀ (B : Nat) (W : World) s' k', UW w w1.heap.size vars vs cs.length vk cs s ms ts T0 W → W.ownsRow B 2 1 (.slice s' T.length k') T.length (valsZ T) → Calls Tryd.prog 14 #[CV vars vs cs.length vk, .slice s' T.length k'] W fun e w' => e = .returned (.bool true) ∧ Below W.heap.size W w') := fun h0 B W s' k' h o => by
    obtain ⟨s1, k1, e1, i1⟩ := own_ints o
    cases e1
    exact TR1.out T W s' k' HT (RO0.out h0).right h i1
  have LV : Hid (∀ (B : Nat) (W : World) s' k' (z : Int), W.ownsRow B 2 1 (.slice s' T.length k') T.length (valsZ T) → Calls Tryd.prog 16 #[.slice s' T.length k', .int .i64 z] W fun e w' => e = .returned (.int .i64 (litF T z)) ∧ Below W.heap.size W w') := fun B W s' k' z o => by
    obtain ⟨s1, k1, e1, i1⟩ := own_ints o
    cases e1
    exact ilv_any s' k' T z W (by unfold maxLen; omega) i1
  have RO : Hid (cd = 0 → T0.length ≤ T.length ∧ RunOk vars (bareC cs) (bareC ms) T0 T conf) := fun h => by
    have h2 := RO0.out h
    obtain ⟨fl, hf⟩ := h2.pre
    simp only at hf
    exact ⟨by rw [hf]; simp, h2⟩
  clear SU IU0 RO0 OA TR1
  generalize hxv : valsZ T = zv at *
  clear hxv
  generalize hxt : T.length = tn at *
  generalize hx0 : T0.length = tn0 at *
  generalize hxn : cs.length = n at *
  generalize hxm : ms.length = m at *
  have HX := Lib.hid (And.intro hxn hxm)
  clear hxt hx0 hxn hxm
  obtain ⟨tl, t0, t1⟩ := B2.out.cells
  --@a
  go_wp2_with fail
  generalize w1.alloc (.cells #[.int .i64 vars, .slice vs n vk] 25) = w2 at *
  generalize w1.heap.size = b3 at *
  refine (SU'.out _ B2.out).mono ?_
  rintro e w3 ⟨s6, k6, rfl, q6, bl3⟩
  have B4 := Lib.hid ((B2.out.below bl3).below (bA0 w3 (.cells #[.slice s6 tn k6, .int .i64 conf, .int .i64 cd] 30)))
  have G4 : Hid (BoxA (w3.alloc (.cells #[.slice s6 tn k6, .int .i64 conf, .int .i64 cd] 30)) w3.heap.size s6 tn k6 conf cd) := new_at _ _
  clear q6 bl3 SU' tl t0 t1 B2
  obtain ⟨tl, t0, t1⟩ := B4.out.cells
  --@b
  go_wp2_with fail
  generalize w3.alloc (.cells #[.slice s6 tn k6, .int .i64 conf, .int .i64 cd] 30) = w4 at *
  generalize w3.heap.size = b6 at *
  have BD := Lib.hid B4.out.drew
  have GD : Hid (BoxA w4.drew b6 s6 tn k6 conf cd) := G4.out
  clear B4 G4 tl t0 t1
  refine wp_region_held_drew (S := fun W => b3 < W.heap.size ∧ W.cell? ⟨b3, 0, none⟩ = some (.int .i64 vars) ∧ W.cell? ⟨b3, 1, none⟩ = some (.slice vs n vk)) (by kernel_rfl) ?_ (fun hHeld => ?_)
  · exact BD.out.cells
  generalize w4.drew = wd at *
  refine wpAnyH_take (i := 0) (oi := _) (v := ?_) rfl (by kernel_rfl) (by kernel_rfl) (by kernel_rfl) (fun _ _ _ h => h) (Or.inl ⟨by rfl, ?_⟩) (by assumption) ?_
  rotate_left
  · intro w hSw; (try dsimp only at hSw); go_simp; try with_reducible rfl
  try simp only [Act.put, List.setIfInBounds_toArray, List.set_cons_zero, List.set_cons_succ, List.getElem_toArray, List.getElem_cons_zero]
  refine wpAnyH_take (i := 1) (oi := _) (v := ?_) rfl (by kernel_rfl) (by kernel_rfl) (by kernel_rfl) (fun _ _ _ h => h) (Or.inl ⟨by rfl, ?_⟩) (by assumption) ?_
  rotate_left
  · intro w hSw; (try dsimp only at hSw); go_simp; try with_reducible rfl
  try simp only [Act.put, List.setIfInBounds_toArray, List.set_cons_zero, List.set_cons_succ, List.getElem_toArray, List.getElem_cons_succ, List.getElem_cons_zero]
  refine wpAnyH_take (i := 2) (oi := _) (v := ?_) rfl (by kernel_rfl) (by kernel_rfl) (by kernel_rfl) (fun _ _ _ h => h) (Or.inl ⟨by rfl, ?_⟩) (by assumption) ?_
  rotate_left
  · intro w hSw; (try dsimp only at hSw); go_simp; try with_reducible rfl
  try simp only [Act.put, List.setIfInBounds_toArray, List.set_cons_zero, List.set_cons_succ, List.getElem_toArray, List.getElem_cons_succ, List.getElem_cons_zero]
  refine wpAnyH_ready (rs := [3, 5]) (by kernel_rfl) (by simp) ?_
  refine AllReadyH.cons rfl (fun K hK => ?_) (AllReadyH.cons rfl (fun K hK => ?_) AllReadyH.nil)
  · go_simp
    go_wp2_with (go_at_call 12; refine (LC0.out _ BD.out).mono ?_; rintro e w8 ⟨s8, k8, rfl, q8, b8⟩)
    have B8 := Lib.hid (BD.out.below b8)
    have G8 := Lib.hid (GD.out.below b8)
    have Q8 := Lib.hid q8
    clear q8 b8
    refine hK.out _ _ ?_ (fun hHeld => ?_)
    · exact B8.out.cells
    clear hK K
    refine wpAnyH_ready (rs := [4, 5]) (by kernel_rfl) (by simp) ?_
    refine AllReadyH.cons rfl (fun K hK => ?_) (AllReadyH.cons rfl (fun K hK => ?_) AllReadyH.nil)
    · go_simp
      go_wp2_with (go_at_call 11; refine (IU.out _ _ _ _ B8.out Q8.out).mono ?_; rintro e w7 ⟨s7, k7, rfl, q7, b7'⟩)
      have B7 := Lib.hid (B8.out.below b7')
      have G7 := Lib.hid (G8.out.below b7')
      have T7 : Hid (w7.ownsRow 0 2 1 (.slice s7 tn k7) tn zv) := own_mono q7 (Nat.zero_le _)
      clear q7 b7'
      refine hK.out _ _ ?_ (fun hHeld => ?_)
      · exact B7.out.cells
      clear hK K
      refine wpAnyH_ready (rs := [5]) (by kernel_rfl) (by simp) ?_
      refine AllReadyH.cons rfl (fun K hK => ?_) AllReadyH.nil
      have BA := Lib.hid (B7.out.below (bA0 w7 (.cells #[.slice none 0 0, .int .i64 0, .int .i64 0] 30)))
      have GA := Lib.hid (G7.out.below (bA0 w7 (.cells #[.slice none 0 0, .int .i64 0, .int .i64 0] 30)))
      have XA : Hid (BoxU (w7.alloc (.cells #[.slice none 0 0, .int .i64 0, .int .i64 0] 30)) w7.heap.size) := new_at _ _
      have NA : Hid (b6 ≠ w7.heap.size) := fun e => by have := G7.out.lt; omega
      have FA : Hid (Fr w7 w7.heap.size (w7.alloc (.cells #[.slice none 0 0, .int .i64 0, .int .i64 0] 30))) := ⟨rfl, bA0 _ _⟩
      have BU := B7
      have TA := Lib.hid (own_below T7.out (bA0 w7 (.cells #[.slice none 0 0, .int .i64 0, .int .i64 0] 30)))
      clear T7
      have T7 := TA
      clear TA
      go_simp
      refine hK.out _ _ ?_ (fun hHeld => ?_)
      · exact BA.out.cells
      clear hK K
      generalize w7.alloc (.cells #[.slice none 0 0, .int .i64 0, .int .i64 0] 30) = wa at *
      generalize w7.heap.size = b7 at *
      refine wpAnyH_ready (rs := [6]) (by kernel_rfl) (by simp) ?_
      refine AllReadyH.cons rfl (fun K hK => ?_) AllReadyH.nil
      have OS : Only b7 wa (((wa.setCell ⟨b7, 0, none⟩ (.slice s7 tn k7)).setCell ⟨b7, 1, none⟩ (.int .i64 conf)).setCell ⟨b7, 2, none⟩ (.int .i64 cd)) := (((Only.refl b7 wa).setCell 0 _).setCell 1 _).setCell 2 _
      have BS := Lib.hid (BU.out.fr FA.out OS)
      have GS : Hid (BoxA (((wa.setCell ⟨b7, 0, none⟩ (.slice s7 tn k7)).setCell ⟨b7, 1, none⟩ (.int .i64 conf)).setCell ⟨b7, 2, none⟩ (.int .i64 cd)) b6 s6 tn k6 conf cd) := (OS.block b6 GA.out.lt NA.out).trans GA.out
      have YS : Hid (UN b7 s7 tn k7 conf cd zv (((wa.setCell ⟨b7, 0, none⟩ (.slice s7 tn k7)).setCell ⟨b7, 1, none⟩ (.int .i64 conf)).setCell ⟨b7, 2, none⟩ (.int .i64 cd))) := ⟨⟨0, own_only T7.out OS XA.out (by decide)⟩, heap_setCell_same _ b7 2 _ 30 (.int .i64 cd) (heap_setCell_same _ b7 1 _ 30 (.int .i64 conf) (heap_setCell_same wa b7 0 _ 30 (.slice s7 tn k7) XA.out))⟩
      obtain ⟨zl, z0, z1, z2, f0, f1, f2⟩ := XA.out.facts
      clear OS
      go_simp
      refine hK.out _ _ ?_ (fun hHeld => ?_)
      · exact BS.out.cells
      clear hK K
      clear zl z0 z1 z2 f0 f1 f2 XA NA T7 FA BU
      generalize (((wa.setCell ⟨b7, 0, none⟩ (.slice s7 tn k7)).setCell ⟨b7, 1, none⟩ (.int .i64 conf)).setCell ⟨b7, 2, none⟩ (.int .i64 cd)) = w9 at *
      refine wpAnyH_done (by kernel_rfl) ?_ _
      have BE := Lib.hid BS.out.drew
      have YE := Lib.hid YS.out.drew
      obtain ⟨yl, y0, y1, y2⟩ := YS.out.facts
      obtain ⟨ga, gb, gc, gd⟩ := box3 GS.out
      by_cases hc : cd = 0
      · subst hc
        have HR := Lib.hid (RO.out rfl)
        have hlen := HR.out.1
        have hcap := YS.out.cap
        have hlen' : ¬ (tn : Int) < (tn0 : Int) := by omega
        have hc1 : (tn0 : Int) ≤ (k7 : Int) := by omega
        have SM := Lib.hid (SM0.out rfl)
        have TR := Lib.hid (TR0.out rfl)
        go_wp2_with fail
        have hdec : ((tn : Int) < (tn0 : Int)) = False := eq_false (by omega)
        refine wp_region_held_drew (S := fun W => (b3 < W.heap.size ∧ W.cell? ⟨b3, 0, none⟩ = some (.int .i64 vars) ∧ W.cell? ⟨b3, 1, none⟩ = some (.slice vs n vk)) ∧ b7 < W.heap.size ∧ W.cell? ⟨b7, 0, none⟩ = some (.slice s7 tn k7)) (by kernel_rfl) ?_ (fun hHeld => ?_)
        · exact ⟨BE.out.cells, YE.out.two⟩
        generalize w9.drew = we at *
        refine wpAnyH_take (i := 0) (oi := _) (v := ?_) rfl (by kernel_rfl) (by kernel_rfl) (by kernel_rfl) (fun _ _ _ h => h) (Or.inl ⟨by rfl, ?_⟩) (by assumption) ?_
        rotate_left
        · intro w hSw; (try dsimp only at hSw); go_simp; try with_reducible rfl
        try simp only [Act.put, List.setIfInBounds_toArray, List.set_cons_zero, List.set_cons_succ, List.getElem_toArray, List.getElem_cons_zero]
        refine wpAnyH_take (i := 1) (oi := _) (v := ?_) rfl (by kernel_rfl) (by kernel_rfl) (by kernel_rfl) (fun _ _ _ h => h) (Or.inl ⟨by rfl, ?_⟩) (by assumption) ?_
        rotate_left
        · intro w hSw; (try dsimp only at hSw); go_simp; try with_reducible rfl
        try simp only [Act.put, List.setIfInBounds_toArray, List.set_cons_zero, List.set_cons_succ, List.getElem_toArray, List.getElem_cons_succ, List.getElem_cons_zero]
        refine wpAnyH_take (i := 2) (oi := _) (v := ?_) rfl (by kernel_rfl) (by kernel_rfl) (by kernel_rfl) (fun _ _ _ h => h) (Or.inl ⟨by rfl, ?_⟩) (by assumption) ?_
        rotate_left
        · intro w hSw; (try dsimp only at hSw); go_simp; try with_reducible rfl
        try simp only [Act.put, List.setIfInBounds_toArray, List.set_cons_zero, List.set_cons_succ, List.getElem_toArray, List.getElem_cons_succ, List.getElem_cons_zero]
        refine wpAnyH_take (i := 3) (oi := _) (v := ?_) rfl (by kernel_rfl) (by kernel_rfl) (by kernel_rfl) (fun _ _ _ h => h) (Or.inl ⟨by rfl, ?_⟩) (by assumption) ?_
        rotate_left
        · intro w hSw; (try dsimp only at hSw); go_simp; try with_reducible rfl
        try simp only [Act.put, List.setIfInBounds_toArray, List.set_cons_zero, List.set_cons_succ, List.getElem_toArray, List.getElem_cons_succ, List.getElem_cons_zero]
        refine wpAnyH_take (i := 4) (oi := _) (v := ?_) rfl (by kernel_rfl) (by kernel_rfl) (by kernel_rfl) (fun _ _ _ h => h) (Or.inl ⟨by rfl, ?_⟩) (by assumption) ?_
        rotate_left
        · intro w hSw; (try dsimp only at hSw); go_simp; try with_reducible rfl
        try simp only [Act.put, List.setIfInBounds_toArray, List.set_cons_zero, List.set_cons_succ, List.getElem_toArray, List.getElem_cons_succ, List.getElem_cons_zero]
        refine wpAnyH_take (i := 5) (oi := _) (v := ?_) rfl (by kernel_rfl) (by kernel_rfl) (by kernel_rfl) (fun _ _ _ h => h) (Or.inl ⟨by rfl, ?_⟩) (by assumption) ?_
        rotate_left
        · intro w hSw; (try dsimp only at hSw); go_simp; try with_reducible rfl
        try simp only [Act.put, List.setIfInBounds_toArray, List.set_cons_zero, List.set_cons_succ, List.getElem_toArray, List.getElem_cons_succ, List.getElem_cons_zero]
        refine wpAnyH_take (i := 6) (oi := _) (v := ?_) rfl (by kernel_rfl) (by kernel_rfl) (by kernel_rfl) (fun _ _ _ h => h) (Or.inl ⟨by rfl, ?_⟩) (by assumption) ?_
        rotate_left
        · intro w hSw; (try dsimp only at hSw); go_simp; try with_reducible rfl
        try simp only [Act.put, List.setIfInBounds_toArray, List.set_cons_zero, List.set_cons_succ, List.getElem_toArray, List.getElem_cons_succ, List.getElem_cons_zero]
        refine wpAnyH_take (i := 7) (oi := _) (v := ?_) rfl (by kernel_rfl) (by kernel_rfl) (by kernel_rfl) (fun _ _ _ h => h) (Or.inl ⟨by rfl, ?_⟩) (by assumption) ?_
        rotate_left
        · intro w hSw; (try dsimp only at hSw); go_simp; try with_reducible rfl
        try simp only [Act.put, List.setIfInBounds_toArray, List.set_cons_zero, List.set_cons_succ, List.getElem_toArray, List.getElem_cons_succ, List.getElem_cons_zero]
        refine wpAnyH_take (i := 8) (oi := _) (v := ?_) rfl (by kernel_rfl) (by kernel_rfl) (by kernel_rfl) (fun _ _ _ h => h) (Or.inl ⟨by rfl, ?_⟩) (by assumption) ?_
        rotate_left
        · intro w hSw; (try dsimp only at hSw); go_simp; try with_reducible rfl
        try simp only [Act.put, List.setIfInBounds_toArray, List.set_cons_zero, List.set_cons_succ, List.getElem_toArray, List.getElem_cons_succ, List.getElem_cons_zero]
        refine wpAnyH_take (i := 9) (oi := _) (v := ?_) rfl (by kernel_rfl) (by kernel_rfl) (by kernel_rfl) (fun _ _ _ h => h) (Or.inl ⟨by rfl, ?_⟩) (by assumption) ?_
        rotate_left
        · intro w hSw; (try dsimp only at hSw); go_simp; try with_reducible rfl
        try simp only [Act.put, List.setIfInBounds_toArray, List.set_cons_zero, List.set_cons_succ, List.getElem_toArray, List.getElem_cons_succ, List.getElem_cons_zero]
        refine wpAnyH_take (i := 10) (oi := _) (v := ?_) rfl (by kernel_rfl) (by kernel_rfl) (by kernel_rfl) (fun _ _ _ h => h) (Or.inl ⟨by rfl, ?_⟩) (by assumption) ?_
        rotate_left
        · intro w hSw; (try dsimp only at hSw); go_simp; try with_reducible rfl
        try simp only [Act.put, List.setIfInBounds_toArray, List.set_cons_zero, List.set_cons_succ, List.getElem_toArray, List.getElem_cons_succ, List.getElem_cons_zero]
        refine wpAnyH_take (i := 11) (oi := _) (v := ?_) rfl (by kernel_rfl) (by kernel_rfl) (by kernel_rfl) (fun _ _ _ h => h) (Or.inl ⟨by rfl, ?_⟩) (by assumption) ?_
        rotate_left
        · intro w hSw; (try dsimp only at hSw); go_simp; try with_reducible rfl
        try simp only [Act.put, List.setIfInBounds_toArray, List.set_cons_zero, List.set_cons_succ, List.getElem_toArray, List.getElem_cons_succ, List.getElem_cons_zero]
        refine wpAnyH_take (i := 12) (oi := _) (v := ?_) rfl (by kernel_rfl) (by kernel_rfl) (by kernel_rfl) (fun _ _ _ h => h) (Or.inl ⟨by rfl, ?_⟩) (by assumption) ?_
        rotate_left
        · intro w hSw; (try dsimp only at hSw); go_simp; try with_reducible rfl
        try simp only [Act.put, List.setIfInBounds_toArray, List.set_cons_zero, List.set_cons_succ, List.getElem_toArray, List.getElem_cons_succ, List.getElem_cons_zero]
        refine wpAnyH_ready (rs := [13]) (by kernel_rfl) (by simp) ?_
        refine AllReadyH.cons rfl (fun K hK => ?_) AllReadyH.nil
        go_simp
        go_wp2_with (go_at_call 13; refine (SM.out _ _ _ _ BE.out YE.out).mono ?_; rintro e w10 ⟨rfl, b10⟩)
        have BF := Lib.hid (BE.out.below b10)
        have YF := Lib.hid (YE.out.below b10)
        clear b10
        refine hK.out _ _ ?_ (fun hHeld => ?_)
        · exact ⟨BF.out.cells, YF.out.two⟩
        clear hK K
        refine wpAnyH_take (i := 14) (oi := _) (v := ?_) rfl (by kernel_rfl) (by kernel_rfl) (by kernel_rfl) (fun _ _ _ h => h) (Or.inl ⟨by rfl, ?_⟩) (by assumption) ?_
        rotate_left
        · intro w hSw; (try dsimp only at hSw); go_simp; try with_reducible rfl
        try simp only [Act.put, List.setIfInBounds_toArray, List.set_cons_zero, List.set_cons_succ, List.getElem_toArray, List.getElem_cons_succ, List.getElem_cons_zero]
        refine wpAnyH_take (i := 15) (oi := _) (v := ?_) rfl (by kernel_rfl) (by kernel_rfl) (by kernel_rfl) (fun _ _ _ h => h) (Or.inl ⟨by rfl, ?_⟩) (by assumption) ?_
        rotate_left
        · intro w hSw; (try dsimp only at hSw); go_simp; try with_reducible rfl
        try simp only [Act.put, List.setIfInBounds_toArray, List.set_cons_zero, List.set_cons_succ, List.getElem_toArray, List.getElem_cons_succ, List.getElem_cons_zero]
        refine wpAnyH_take (i := 16) (oi := _) (v := ?_) rfl (by kernel_rfl) (by kernel_rfl) (by kernel_rfl) (fun _ _ _ h => h) (Or.inl ⟨by rfl, ?_⟩) (by assumption) ?_
        rotate_left
        · intro w hSw; (try dsimp only at hSw); go_simp; try with_reducible rfl
        try simp only [Act.put, List.setIfInBounds_toArray, List.set_cons_zero, List.set_cons_succ, List.getElem_toArray, List.getElem_cons_succ, List.getElem_cons_zero]
        refine wpAnyH_take (i := 17) (oi := _) (v := ?_) rfl (by kernel_rfl) (by kernel_rfl) (by kernel_rfl) (fun _ _ _ h => h) (Or.inl ⟨by rfl, ?_⟩) (by assumption) ?_
        rotate_left
        · intro w hSw; (try dsimp only at hSw); go_simp; try with_reducible rfl
        try simp only [Act.put, List.setIfInBounds_toArray, List.set_cons_zero, List.set_cons_succ, List.getElem_toArray, List.getElem_cons_succ, List.getElem_cons_zero]
        refine wpAnyH_take (i := 18) (oi := _) (v := ?_) rfl (by kernel_rfl) (by kernel_rfl) (by kernel_rfl) (fun _ _ _ h => h) (Or.inl ⟨by rfl, ?_⟩) (by assumption) ?_
        rotate_left
        · intro w hSw; (try dsimp only at hSw); go_simp; try with_reducible rfl
        try simp only [Act.put, List.setIfInBounds_toArray, List.set_cons_zero, List.set_cons_succ, List.getElem_toArray, List.getElem_cons_succ, List.getElem_cons_zero]
        refine wpAnyH_take (i := 19) (oi := _) (v := ?_) rfl (by kernel_rfl) (by kernel_rfl) (by kernel_rfl) (fun _ _ _ h => h) (Or.inl ⟨by rfl, ?_⟩) (by assumption) ?_
        rotate_left
        · intro w hSw; (try dsimp only at hSw); go_simp; try with_reducible rfl
        try simp only [Act.put, List.setIfInBounds_toArray, List.set_cons_zero, List.set_cons_succ, List.getElem_toArray, List.getElem_cons_succ, List.getElem_cons_zero]
        refine wpAnyH_ready (rs := [20]) (by kernel_rfl) (by simp) ?_
        refine AllReadyH.cons rfl (fun K hK => ?_) AllReadyH.nil
        go_simp
        go_wp2_with (go_at_call 12; refine (LC.out _ _ _ _ YF.out).mono ?_; rintro e w11 ⟨s11, k11, rfl, q11, b11⟩)
        have BG := Lib.hid (BF.out.below b11)
        have YG := Lib.hid (YF.out.below b11)
        have QG := Lib.hid q11
        clear q11 b11
        refine hK.out _ _ ?_ (fun hHeld => ?_)
        · exact ⟨BG.out.cells, YG.out.two⟩
        clear hK K
        refine wpAnyH_ready (rs := [21]) (by kernel_rfl) (by simp) ?_
        refine AllReadyH.cons rfl (fun K hK => ?_) AllReadyH.nil
        go_simp
        go_wp2_with (go_at_call 14; refine (TR.out _ _ _ _ BG.out QG.out).mono ?_; rintro e w12 ⟨rfl, b12⟩)
        have BH := Lib.hid (BG.out.below b12)
        have YH := Lib.hid (YG.out.below b12)
        clear b12
        refine hK.out _ _ ?_ (fun hHeld => ?_)
        · exact ⟨BH.out.cells, YH.out.two⟩
        clear hK K
        refine wpAnyH_take (i := 22) (oi := _) (v := ?_) rfl (by kernel_rfl) (by kernel_rfl) (by kernel_rfl) (fun _ _ _ h => h) (Or.inl ⟨by rfl, ?_⟩) (by assumption) ?_
        rotate_left
        · intro w hSw; (try dsimp only at hSw); go_simp; try with_reducible rfl
        try simp only [Act.put, List.setIfInBounds_toArray, List.set_cons_zero, List.set_cons_succ, List.getElem_toArray, List.getElem_cons_succ, List.getElem_cons_zero]
        refine wpAnyH_take (i := 23) (oi := _) (v := ?_) rfl (by kernel_rfl) (by kernel_rfl) (by kernel_rfl) (fun _ _ _ h => h) (Or.inl ⟨by rfl, ?_⟩) (by assumption) ?_
        rotate_left
        · intro w hSw; (try dsimp only at hSw); go_simp; try with_reducible rfl
        try simp only [Act.put, List.setIfInBounds_toArray, List.set_cons_zero, List.set_cons_succ, List.getElem_toArray, List.getElem_cons_succ, List.getElem_cons_zero]
        refine wpAnyH_done (by kernel_rfl) ?_ _
        have LW1 : Hid (∀ (y : Int) (k : Nat) (hk : k < (cs ++ ms).length), y = (k : Int) → ∀ W, UW w b3 vars vs n vk cs s ms ts T0 W → Calls Tryd.prog 15 #[CV vars vs n vk, .slice s m sk, .int .i64 y] W (LcP (cs ++ ms)[k].2 W)) := fun y k hk e W h => by subst e; exact LW.out k hk W h
        have HL : Hid (∀ (k : Nat) (hk : k < (cs ++ ms).length), (∀ z ∈ (cs ++ ms)[k].2, litF T z = val T z) ∧ (conf = (k : Int) → ¬ GdL T (cs ++ ms)[k].2 ∧ opC T (cs ++ ms)[k].2 = 0) ∧ (conf = -1 → GdL T (cs ++ ms)[k].2 ∨ 2 ≤ opC T (cs ++ ms)[k].2)) := fun k hk => by
          have he : bareC cs ++ bareC ms = (cs ++ ms).map fun r => r.2 := by simp [bareC]
          have hk' : k < (bareC cs ++ bareC ms).length := by rw [he, List.length_map]; exact hk
          have e : (bareC cs ++ bareC ms)[k] = (cs ++ ms)[k].2 := by simp only [he, List.getElem_map]
          have hm : (cs ++ ms)[k].2 ∈ bareC cs ++ bareC ms := by rw [← e]; exact List.getElem_mem hk'
          have h1 := HR.out.2.fals k hk'
          rw [e] at h1
          exact ⟨HR.out.2.lits _ hm, h1, fun g => HR.out.2.fine g _ hm⟩
        have HN : Hid ((cs ++ ms).length = n + m) := by show _ = _; rw [List.length_append, HX.out.1, HX.out.2]
        have B12 := BH
        have Y12 := YH
        clear LW HR SM TR LC0 IU RO SM0 TR0 BE YE BF YF BG YG QG BH YH BS GS YS yl y0 y1 y2 ga gb gc gd
        obtain ⟨tl, t0, t1⟩ := B12.out.cells
        go_wp2
        clear tl t0 t1
        go_loopw [9] (fun a wr => ∃ (k : Nat) (y : Int), a = .int .i64 y ∧ Hid (y = (k : Int) ∧ k ≤ n + m) ∧ Hid (UW w b3 vars vs n vk cs s ms ts T0 wr) ∧ Hid (UN b7 s7 tn k7 conf 0 zv wr)) (fun a _ => (((n : Int) + (m : Int)) - intOf a).toNat)
        case atStart =>
          exact ⟨0, 0, rfl, ⟨rfl, Nat.zero_le _⟩, B12, Y12⟩
        case round =>
          obtain ⟨k, y, rfl, HK, B13, Y13⟩ := hrel
          clear B12 Y12
          obtain ⟨tl, t0, t1⟩ := B13.out.cells
          by_cases hk : k < n + m
          · have hlt : y < (n : Int) + (m : Int) := by have := HK.out.1; omega
            have hy0 : 0 ≤ y := by have := HK.out.1; omega
            have hk2 : k < (cs ++ ms).length := by rw [HN.out]; exact hk
            have L13 := Lib.hid (LW1.out y k hk2 HK.out.1 _ B13.out)
            have H13 := Lib.hid (HL.out k hk2)
            have HY : Hid (y = (k : Int)) := HK.out.1
            have hnm : (n : Int) + (m : Int) ≤ 100000 := by omega
            clear hk
            go_wp2_with fail
            refine L13.out.mono ?_
            rintro e w14 ⟨s1, k1, rfl, hi, hl1, b14⟩
            have B14 := Lib.hid (B13.out.below b14)
            have Y14 := Lib.hid (Y13.out.below b14)
            have I14 := Lib.hid hi
            unfold maxLen at hl1
            clear hi b14 L13 B13 Y13 tl t0 t1
            generalize (cs ++ ms)[k].2 = l at *
            obtain ⟨hlit, hfal, hfin⟩ := H13.out
            have HLIT := Lib.hid hlit
            have HFAL : Hid (conf = y → ¬ GdL T l ∧ opC T l = 0) := fun e => hfal (e.trans HY.out)
            have HFIN := Lib.hid hfin
            clear hlit hfal hfin H13
            generalize hln : l.length = ln at *
            have HLN := Lib.hid hln
            clear hln
            go_wp2
            go_loopw [11, 12, 13] (fun o g i wr => ∃ (j : Nat) (gd : Bool) (yo yi : Int), o = .int .i64 yo ∧ g = .bool gd ∧ i = .int .i64 yi ∧ Hid (yi = (j : Int) ∧ j ≤ ln ∧ yo = (opC T (l.take j) : Int) ∧ (gd = true ↔ GdL T (l.take j))) ∧ Hid (UW w b3 vars vs n vk cs s ms ts T0 wr) ∧ Hid (UN b7 s7 tn k7 conf 0 zv wr) ∧ Hid (Ints wr s1 l)) (fun _ _ i _ => ((ln : Int) - intOf i).toNat)
            case atStart =>
              exact ⟨0, false, 0, 0, rfl, rfl, rfl, ⟨rfl, Nat.zero_le _, by simp [opC], by simp [GdL]⟩, B14, Y14, I14⟩
            case round =>
              obtain ⟨j, gd, yo, yi, rfl, rfl, rfl, HJ, B15, Y15, I15⟩ := hrel
              clear B14 Y14 I14
              have hyi0 : 0 ≤ yi := by have := HJ.out.1; omega
              have hyo0 : 0 ≤ yo := by have := HJ.out.2.2.1; omega
              have hyo1 : yo ≤ yi := by
                have h1 := HJ.out.2.2.1
                have h2 := opC_le T (l.take j)
                have h3 : (l.take j).length ≤ j := by rw [List.length_take]; omega
                have h4 := HJ.out.1
                omega
              by_cases hj : j < ln
              · have hjl : yi < (ln : Int) := by have := HJ.out.1; omega
                obtain ⟨lc, lo, rfl, hlc, hcell0⟩ : ∃ lc lo, s1 = some ⟨lc, lo, none⟩ ∧ lc < wr.heap.size ∧ ∀ i, i < l.length → wr.cell? ⟨lc, lo + i, none⟩ = some (.int .i64 (l.getD i 0)) := by
                  rcases I15.out with h | ⟨c, o, e, h1, h2⟩
                  · have := HLN.out; rw [h] at this; simp at this; omega
                  · exact ⟨c, o, e, h1, h2⟩
                have hjl2 : j < l.length := by rw [HLN.out]; exact hj
                have hcell := hcell0 j hjl2
                have hzm : l.getD j 0 ∈ l := by simp [List.getD_eq_getElem?_getD, hjl2]
                have hzv := HLIT.out _ hzm
                have hop := opC_step T l j hjl2
                have hgd := GdL_step T l j hjl2
                have NEXT : Hid (∀ (wr' : World) (yo' : Int) (gd' : Bool), yo' = (opC T (l.take (j + 1)) : Int) → (gd' = true ↔ GdL T (l.take (j + 1))) → UW w b3 vars vs n vk cs s ms ts T0 wr' → UN b7 s7 tn k7 conf 0 zv wr' → Ints wr' (some ⟨lc, lo, none⟩) l → ∃ (j : Nat) (gd : Bool) (yo yi2 : Int), Value.int .i64 yo' = .int .i64 yo ∧ Value.bool gd' = .bool gd ∧ Value.int .i64 (yi + 1) = .int .i64 yi2 ∧ Hid (yi2 = (j : Int) ∧ j ≤ ln ∧ yo = (opC T (l.take j) : Int) ∧ (gd = true ↔ GdL T (l.take j))) ∧ Hid (UW w b3 vars vs n vk cs s ms ts T0 wr') ∧ Hid (UN b7 s7 tn k7 conf 0 zv wr') ∧ Hid (Ints wr' (some ⟨lc, lo, none⟩) l)) := fun wr' yo' gd' h1 h2 h3 h4 h5 =>
                  ⟨j + 1, gd', yo', yi + 1, rfl, rfl, rfl, ⟨by have := HJ.out.1; omega, by omega, h1, h2⟩, h3, h4, h5⟩
                have MES : Hid (((ln : Int) - (yi + 1)).toNat < ((ln : Int) - yi).toNat) := by show _ < _; omega
                have CI : Hid (Ints wr.drew (some ⟨lc, lo, none⟩) l) := I15.out.below (Below.refl _ _).drew
                have BI := Lib.hid B15.out.drew
                have YI := Lib.hid Y15.out.drew
                have CE : Hid (∀ W, Ints W (some ⟨lc, lo, none⟩) l → lc < W.heap.size ∧ ∀ (q : Int), q = yi → W.cell? ⟨lc, lo + q.toNat, none⟩ = some (.int .i64 (l.getD j 0))) := fun W h => by
                  rcases h with h | ⟨c, o, e, h1, h2⟩
                  · rw [h] at hjl2; simp at hjl2
                  · cases e
                    exact ⟨h1, fun q hq => by rw [hq, show yi.toNat = j by have := HJ.out.1; omega]; exact h2 j hjl2⟩
                have hcw := (CE.out _ I15.out).2 yi rfl
                have hw1 : wrap64 (yi + 1) = yi + 1 := wrap_in _ ⟨by omega, by omega⟩
                have hw2 : wrap64 (yo + 1) = yo + 1 := wrap_in _ ⟨by omega, by omega⟩
                generalize hzz : l.getD j 0 = z at *
                have V3 : (litF T z = 1 ∧ val T z = 1) ∨ (litF T z = -1 ∧ val T z = -1) ∨ (litF T z = 0 ∧ val T z = 0) := by
                  rcases val_cases T z with ⟨e, _⟩ | ⟨e, _⟩ | ⟨e, _⟩
                  · exact .inl ⟨hzv.trans e, e⟩
                  · exact .inr (.inl ⟨hzv.trans e, e⟩)
                  · exact .inr (.inr ⟨hzv.trans e, e⟩)
                clear hzv hzm hzz hcell hcell0 hjl2 I15 B15 Y15
                rcases V3 with ⟨v1, v2⟩ | ⟨v1, v2⟩ | ⟨v1, v2⟩
                · rw [if_neg (by omega)] at hop
                  have hg2 : GdL T (l.take (j + 1)) := hgd.2 (.inr v2)
                  have FIN := Lib.hid (fun wr' => NEXT.out wr' yo true (by rw [hop]; exact HJ.out.2.2.1) ⟨fun _ => hg2, fun _ => rfl⟩)
                  have LVz : Hid (∀ (B : Nat) (W : World) s' k', W.ownsRow B 2 1 (.slice s' tn k') tn zv → Calls Tryd.prog 16 #[.slice s' tn k', .int .i64 z] W fun e w' => e = .returned (.int .i64 1) ∧ Below W.heap.size W w') := fun B W s' k' o => by rw [← v1]; exact LV.out B W s' k' z o
                  clear NEXT hop hgd HJ v1 v2
                  go_wp2_with fail
                  refine wp_region_held_drew (S := fun W => (b7 < W.heap.size ∧ W.cell? ⟨b7, 0, none⟩ = some (.slice s7 tn k7)) ∧ lc < W.heap.size ∧ W.cell? ⟨lc, lo + yi.toNat, none⟩ = some (.int .i64 z)) (by kernel_rfl) ?_ (fun hHeld => ?_)
                  · exact ⟨YI.out.two, (CE.out _ CI.out).1, (CE.out _ CI.out).2 yi rfl⟩
                  generalize wr.drew = wi at *
                  refine wpAnyH_take (i := 0) (oi := _) (v := ?_) rfl (by kernel_rfl) (by kernel_rfl) (by kernel_rfl) (fun _ _ _ h => h) (Or.inl ⟨by rfl, ?_⟩) (by assumption) ?_
                  rotate_left
                  · intro w hSw; (try dsimp only at hSw); go_simp; try with_reducible rfl
                  try simp only [Act.put, List.setIfInBounds_toArray, List.set_cons_zero, List.set_cons_succ, List.getElem_toArray, List.getElem_cons_zero]
                  refine wpAnyH_take (i := 1) (oi := _) (v := ?_) rfl (by kernel_rfl) (by kernel_rfl) (by kernel_rfl) (fun _ _ _ h => h) (Or.inl ⟨by rfl, ?_⟩) (by assumption) ?_
                  rotate_left
                  · intro w hSw; (try dsimp only at hSw); go_simp; try with_reducible rfl
                  try simp only [Act.put, List.setIfInBounds_toArray, List.set_cons_zero, List.set_cons_succ, List.getElem_toArray, List.getElem_cons_succ, List.getElem_cons_zero]
                  refine wpAnyH_take (i := 3) (oi := _) (v := ?_) rfl (by kernel_rfl) (by kernel_rfl) (by kernel_rfl) (fun _ _ _ h => h) (Or.inl ⟨by rfl, ?_⟩) (by assumption) ?_
                  rotate_left
                  · intro w hSw; (try dsimp only at hSw); go_simp; try with_reducible rfl
                  try simp only [Act.put, List.setIfInBounds_toArray, List.set_cons_zero, List.set_cons_succ, List.getElem_toArray, List.getElem_cons_succ, List.getElem_cons_zero]
                  refine wpAnyH_take (i := 4) (oi := _) (v := ?_) rfl (by kernel_rfl) (by kernel_rfl) (by kernel_rfl) (fun _ _ _ h => h) (Or.inl ⟨by rfl, ?_⟩) (by assumption) ?_
                  rotate_left
                  · intro w hSw; (try dsimp only at hSw); go_simp; try with_reducible rfl
                  try simp only [Act.put, List.setIfInBounds_toArray, List.set_cons_zero, List.set_cons_succ, List.getElem_toArray, List.getElem_cons_succ, List.getElem_cons_zero]
                  refine wpAnyH_take (i := 5) (oi := _) (v := ?_) rfl (by kernel_rfl) (by kernel_rfl) (by kernel_rfl) (fun _ _ _ h => h) (Or.inl ⟨by rfl, ?_⟩) (by assumption) ?_
                  rotate_left
                  · intro w hSw; (try dsimp only at hSw); go_simp; try with_reducible rfl
                  try simp only [Act.put, List.setIfInBounds_toArray, List.set_cons_zero, List.set_cons_succ, List.getElem_toArray, List.getElem_cons_succ, List.getElem_cons_zero]
                  refine wpAnyH_take (i := 6) (oi := _) (v := ?_) rfl (by kernel_rfl) (by kernel_rfl) (by kernel_rfl) (fun _ _ _ h => h) (Or.inl ⟨by rfl, ?_⟩) (by assumption) ?_
                  rotate_left
                  · intro w hSw; (try dsimp only at hSw); go_simp; try with_reducible rfl
                  try simp only [Act.put, List.setIfInBounds_toArray, List.set_cons_zero, List.set_cons_succ, List.getElem_toArray, List.getElem_cons_succ, List.getElem_cons_zero]
                  refine wpAnyH_ready (rs := [2]) (by kernel_rfl) (by simp) ?_
                  refine AllReadyH.cons rfl (fun K hK => ?_) AllReadyH.nil
                  go_simp
                  go_wp2_with (go_at_call 12; refine (LC.out _ _ _ _ YI.out).mono ?_; rintro e w15 ⟨s15, k15, rfl, q15, b15⟩)
                  have BJ := Lib.hid (BI.out.below b15)
                  have YJ := Lib.hid (YI.out.below b15)
                  have CJ := Lib.hid (CI.out.below b15)
                  have QJ := Lib.hid q15
                  clear q15 b15
                  refine hK.out _ _ ?_ (fun hHeld => ?_)
                  · exact ⟨YJ.out.two, (CE.out _ CJ.out).1, (CE.out _ CJ.out).2 yi rfl⟩
                  clear hK K
                  refine wpAnyH_ready (rs := [7]) (by kernel_rfl) (by simp) ?_
                  refine AllReadyH.cons rfl (fun K hK => ?_) AllReadyH.nil
                  go_simp
                  go_wp2_with (go_at_call 16; refine (LVz.out _ _ _ _ QJ.out).mono ?_; rintro e w16 ⟨rfl, b16⟩)
                  have BK := Lib.hid (BJ.out.below b16)
                  have YK := Lib.hid (YJ.out.below b16)
                  have CK := Lib.hid (CJ.out.below b16)
                  clear b16
                  refine hK.out _ _ ?_ (fun hHeld => ?_)
                  · exact ⟨YK.out.two, (CE.out _ CK.out).1, (CE.out _ CK.out).2 yi rfl⟩
                  clear hK K
                  refine wpAnyH_take (i := 8) (oi := _) (v := ?_) rfl (by kernel_rfl) (by kernel_rfl) (by kernel_rfl) (fun _ _ _ h => h) (Or.inl ⟨by rfl, ?_⟩) (by assumption) ?_
                  rotate_left
                  · intro w hSw; (try dsimp only at hSw); go_simp; try with_reducible rfl
                  try simp only [Act.put, List.setIfInBounds_toArray, List.set_cons_zero, List.set_cons_succ, List.getElem_toArray, List.getElem_cons_succ, List.getElem_cons_zero]
                  refine wpAnyH_done (by kernel_rfl) ?_ _
                  have PF := Lib.hid (FIN.out _ BK.out YK.out CK.out)
                  clear FIN CE BI YI CI BJ YJ CJ QJ BK YK CK LVz
                  go_wp2
                  try rw [hw1]
                  try rw [hw2]
                  exact ⟨PF.out, MES.out⟩
                · rw [if_neg (by omega)] at hop
                  have hg2 : gd = true ↔ GdL T (l.take (j + 1)) := ⟨fun h => hgd.2 (.inl (HJ.out.2.2.2.1 h)), fun h => by
                    rcases hgd.1 h with g | g
                    · exact HJ.out.2.2.2.2 g
                    · omega⟩
                  have FIN := Lib.hid (fun wr' => NEXT.out wr' yo gd (by rw [hop]; exact HJ.out.2.2.1) hg2)
                  have LVz : Hid (∀ (B : Nat) (W : World) s' k', W.ownsRow B 2 1 (.slice s' tn k') tn zv → Calls Tryd.prog 16 #[.slice s' tn k', .int .i64 z] W fun e w' => e = .returned (.int .i64 (-1)) ∧ Below W.heap.size W w') := fun B W s' k' o => by rw [← v1]; exact LV.out B W s' k' z o
                  clear NEXT hop hgd HJ v1 v2
                  go_wp2_with fail
                  refine wp_region_held_drew (S := fun W => (b7 < W.heap.size ∧ W.cell? ⟨b7, 0, none⟩ = some (.slice s7 tn k7)) ∧ lc < W.heap.size ∧ W.cell? ⟨lc, lo + yi.toNat, none⟩ = some (.int .i64 z)) (by kernel_rfl) ?_ (fun hHeld => ?_)
                  · exact ⟨YI.out.two, (CE.out _ CI.out).1, (CE.out _ CI.out).2 yi rfl⟩
                  generalize wr.drew = wi at *
                  refine wpAnyH_take (i := 0) (oi := _) (v := ?_) rfl (by kernel_rfl) (by kernel_rfl) (by kernel_rfl) (fun _ _ _ h => h) (Or.inl ⟨by rfl, ?_⟩) (by assumption) ?_
                  rotate_left
                  · intro w hSw; (try dsimp only at hSw); go_simp; try with_reducible rfl
                  try simp only [Act.put, List.setIfInBounds_toArray, List.set_cons_zero, List.set_cons_succ, List.getElem_toArray, List.getElem_cons_zero]
                  refine wpAnyH_take (i := 1) (oi := _) (v := ?_) rfl (by kernel_rfl) (by kernel_rfl) (by kernel_rfl) (fun _ _ _ h => h) (Or.inl ⟨by rfl, ?_⟩) (by assumption) ?_
                  rotate_left
                  · intro w hSw; (try dsimp only at hSw); go_simp; try with_reducible rfl
                  try simp only [Act.put, List.setIfInBounds_toArray, List.set_cons_zero, List.set_cons_succ, List.getElem_toArray, List.getElem_cons_succ, List.getElem_cons_zero]
                  refine wpAnyH_take (i := 3) (oi := _) (v := ?_) rfl (by kernel_rfl) (by kernel_rfl) (by kernel_rfl) (fun _ _ _ h => h) (Or.inl ⟨by rfl, ?_⟩) (by assumption) ?_
                  rotate_left
                  · intro w hSw; (try dsimp only at hSw); go_simp; try with_reducible rfl
                  try simp only [Act.put, List.setIfInBounds_toArray, List.set_cons_zero, List.set_cons_succ, List.getElem_toArray, List.getElem_cons_succ, List.getElem_cons_zero]
                  refine wpAnyH_take (i := 4) (oi := _) (v := ?_) rfl (by kernel_rfl) (by kernel_rfl) (by kernel_rfl) (fun _ _ _ h => h) (Or.inl ⟨by rfl, ?_⟩) (by assumption) ?_
                  rotate_left
                  · intro w hSw; (try dsimp only at hSw); go_simp; try with_reducible rfl
                  try simp only [Act.put, List.setIfInBounds_toArray, List.set_cons_zero, List.set_cons_succ, List.getElem_toArray, List.getElem_cons_succ, List.getElem_cons_zero]
                  refine wpAnyH_take (i := 5) (oi := _) (v := ?_) rfl (by kernel_rfl) (by kernel_rfl) (by kernel_rfl) (fun _ _ _ h => h) (Or.inl ⟨by rfl, ?_⟩) (by assumption) ?_
                  rotate_left
                  · intro w hSw; (try dsimp only at hSw); go_simp; try with_reducible rfl
                  try simp only [Act.put, List.setIfInBounds_toArray, List.set_cons_zero, List.set_cons_succ, List.getElem_toArray, List.getElem_cons_succ, List.getElem_cons_zero]
                  refine wpAnyH_take (i := 6) (oi := _) (v := ?_) rfl (by kernel_rfl) (by kernel_rfl) (by kernel_rfl) (fun _ _ _ h => h) (Or.inl ⟨by rfl, ?_⟩) (by assumption) ?_
                  rotate_left
                  · intro w hSw; (try dsimp only at hSw); go_simp; try with_reducible rfl
                  try simp only [Act.put, List.setIfInBounds_toArray, List.set_cons_zero, List.set_cons_succ, List.getElem_toArray, List.getElem_cons_succ, List.getElem_cons_zero]
                  refine wpAnyH_ready (rs := [2]) (by kernel_rfl) (by simp) ?_
                  refine AllReadyH.cons rfl (fun K hK => ?_) AllReadyH.nil
                  go_simp
                  go_wp2_with (go_at_call 12; refine (LC.out _ _ _ _ YI.out).mono ?_; rintro e w15 ⟨s15, k15, rfl, q15, b15⟩)
                  have BJ := Lib.hid (BI.out.below b15)
                  have YJ := Lib.hid (YI.out.below b15)
                  have CJ := Lib.hid (CI.out.below b15)
                  have QJ := Lib.hid q15
                  clear q15 b15
                  refine hK.out _ _ ?_ (fun hHeld => ?_)
                  · exact ⟨YJ.out.two, (CE.out _ CJ.out).1, (CE.out _ CJ.out).2 yi rfl⟩
                  clear hK K
                  refine wpAnyH_ready (rs := [7]) (by kernel_rfl) (by simp) ?_
                  refine AllReadyH.cons rfl (fun K hK => ?_) AllReadyH.nil
                  go_simp
                  go_wp2_with (go_at_call 16; refine (LVz.out _ _ _ _ QJ.out).mono ?_; rintro e w16 ⟨rfl, b16⟩)
                  have BK := Lib.hid (BJ.out.below b16)
                  have YK := Lib.hid (YJ.out.below b16)
                  have CK := Lib.hid (CJ.out.below b16)
                  clear b16
                  refine hK.out _ _ ?_ (fun hHeld => ?_)
                  · exact ⟨YK.out.two, (CE.out _ CK.out).1, (CE.out _ CK.out).2 yi rfl⟩
                  clear hK K
                  refine wpAnyH_take (i := 8) (oi := _) (v := ?_) rfl (by kernel_rfl) (by kernel_rfl) (by kernel_rfl) (fun _ _ _ h => h) (Or.inl ⟨by rfl, ?_⟩) (by assumption) ?_
                  rotate_left
                  · intro w hSw; (try dsimp only at hSw); go_simp; try with_reducible rfl
                  try simp only [Act.put, List.setIfInBounds_toArray, List.set_cons_zero, List.set_cons_succ, List.getElem_toArray, List.getElem_cons_succ, List.getElem_cons_zero]
                  refine wpAnyH_done (by kernel_rfl) ?_ _
                  have PF := Lib.hid (FIN.out _ BK.out YK.out CK.out)
                  clear FIN CE BI YI CI BJ YJ CJ QJ BK YK CK LVz
                  go_wp2
                  try rw [hw1]
                  try rw [hw2]
                  exact ⟨PF.out, MES.out⟩
                · rw [if_pos v2] at hop
                  have hg2 : gd = true ↔ GdL T (l.take (j + 1)) := ⟨fun h => hgd.2 (.inl (HJ.out.2.2.2.1 h)), fun h => by
                    rcases hgd.1 h with g | g
                    · exact HJ.out.2.2.2.2 g
                    · omega⟩
                  have FIN := Lib.hid (fun wr' => NEXT.out wr' (yo + 1) gd (by rw [hop]; have := HJ.out.2.2.1; omega) hg2)
                  have LVz : Hid (∀ (B : Nat) (W : World) s' k', W.ownsRow B 2 1 (.slice s' tn k') tn zv → Calls Tryd.prog 16 #[.slice s' tn k', .int .i64 z] W fun e w' => e = .returned (.int .i64 0) ∧ Below W.heap.size W w') := fun B W s' k' o => by rw [← v1]; exact LV.out B W s' k' z o
                  clear NEXT hop hgd HJ v1 v2
                  go_wp2_with fail
                  refine wp_region_held_drew (S := fun W => (b7 < W.heap.size ∧ W.cell? ⟨b7, 0, none⟩ = some (.slice s7 tn k7)) ∧ lc < W.heap.size ∧ W.cell? ⟨lc, lo + yi.toNat, none⟩ = some (.int .i64 z)) (by kernel_rfl) ?_ (fun hHeld => ?_)
                  · exact ⟨YI.out.two, (CE.out _ CI.out).1, (CE.out _ CI.out).2 yi rfl⟩
                  generalize wr.drew = wi at *
                  refine wpAnyH_take (i := 0) (oi := _) (v := ?_) rfl (by kernel_rfl) (by kernel_rfl) (by kernel_rfl) (fun _ _ _ h => h) (Or.inl ⟨by rfl, ?_⟩) (by assumption) ?_
                  rotate_left
                  · intro w hSw; (try dsimp only at hSw); go_simp; try with_reducible rfl
                  try simp only [Act.put, List.setIfInBounds_toArray, List.set_cons_zero, List.set_cons_succ, List.getElem_toArray, List.getElem_cons_zero]
                  refine wpAnyH_take (i := 1) (oi := _) (v := ?_) rfl (by kernel_rfl) (by kernel_rfl) (by kernel_rfl) (fun _ _ _ h => h) (Or.inl ⟨by rfl, ?_⟩) (by assumption) ?_
                  rotate_left
                  · intro w hSw; (try dsimp only at hSw); go_simp; try with_reducible rfl
                  try simp only [Act.put, List.setIfInBounds_toArray, List.set_cons_zero, List.set_cons_succ, List.getElem_toArray, List.getElem_cons_succ, List.getElem_cons_zero]
                  refine wpAnyH_take (i := 3) (oi := _) (v := ?_) rfl (by kernel_rfl) (by kernel_rfl) (by kernel_rfl) (fun _ _ _ h => h) (Or.inl ⟨by rfl, ?_⟩) (by assumption) ?_
                  rotate_left
                  · intro w hSw; (try dsimp only at hSw); go_simp; try with_reducible rfl
                  try simp only [Act.put, List.setIfInBounds_toArray, List.set_cons_zero, List.set_cons_succ, List.getElem_toArray, List.getElem_cons_succ, List.getElem_cons_zero]
                  refine wpAnyH_take (i := 4) (oi := _) (v := ?_) rfl (by kernel_rfl) (by kernel_rfl) (by kernel_rfl) (fun _ _ _ h => h) (Or.inl ⟨by rfl, ?_⟩) (by assumption) ?_
                  rotate_left
                  · intro w hSw; (try dsimp only at hSw); go_simp; try with_reducible rfl
                  try simp only [Act.put, List.setIfInBounds_toArray, List.set_cons_zero, List.set_cons_succ, List.getElem_toArray, List.getElem_cons_succ, List.getElem_cons_zero]
                  refine wpAnyH_take (i := 5) (oi := _) (v := ?_) rfl (by kernel_rfl) (by kernel_rfl) (by kernel_rfl) (fun _ _ _ h => h) (Or.inl ⟨by rfl, ?_⟩) (by assumption) ?_
                  rotate_left
                  · intro w hSw; (try dsimp only at hSw); go_simp; try with_reducible rfl
                  try simp only [Act.put, List.setIfInBounds_toArray, List.set_cons_zero, List.set_cons_succ, List.getElem_toArray, List.getElem_cons_succ, List.getElem_cons_zero]
                  refine wpAnyH_take (i := 6) (oi := _) (v := ?_) rfl (by kernel_rfl) (by kernel_rfl) (by kernel_rfl) (fun _ _ _ h => h) (Or.inl ⟨by rfl, ?_⟩) (by assumption) ?_
                  rotate_left
                  · intro w hSw; (try dsimp only at hSw); go_simp; try with_reducible rfl
                  try simp only [Act.put, List.setIfInBounds_toArray, List.set_cons_zero, List.set_cons_succ, List.getElem_toArray, List.getElem_cons_succ, List.getElem_cons_zero]
                  refine wpAnyH_ready (rs := [2]) (by kernel_rfl) (by simp) ?_
                  refine AllReadyH.cons rfl (fun K hK => ?_) AllReadyH.nil
                  go_simp
                  go_wp2_with (go_at_call 12; refine (LC.out _ _ _ _ YI.out).mono ?_; rintro e w15 ⟨s15, k15, rfl, q15, b15⟩)
                  have BJ := Lib.hid (BI.out.below b15)
                  have YJ := Lib.hid (YI.out.below b15)
                  have CJ := Lib.hid (CI.out.below b15)
                  have QJ := Lib.hid q15
                  clear q15 b15
                  refine hK.out _ _ ?_ (fun hHeld => ?_)
                  · exact ⟨YJ.out.two, (CE.out _ CJ.out).1, (CE.out _ CJ.out).2 yi rfl⟩
                  clear hK K
                  refine wpAnyH_ready (rs := [7]) (by kernel_rfl) (by simp) ?_
                  refine AllReadyH.cons rfl (fun K hK => ?_) AllReadyH.nil
                  go_simp
                  go_wp2_with (go_at_call 16; refine (LVz.out _ _ _ _ QJ.out).mono ?_; rintro e w16 ⟨rfl, b16⟩)
                  have BK := Lib.hid (BJ.out.below b16)
                  have YK := Lib.hid (YJ.out.below b16)
                  have CK := Lib.hid (CJ.out.below b16)
                  clear b16
                  refine hK.out _ _ ?_ (fun hHeld => ?_)
                  · exact ⟨YK.out.two, (CE.out _ CK.out).1, (CE.out _ CK.out).2 yi rfl⟩
                  clear hK K
                  refine wpAnyH_take (i := 8) (oi := _) (v := ?_) rfl (by kernel_rfl) (by kernel_rfl) (by kernel_rfl) (fun _ _ _ h => h) (Or.inl ⟨by rfl, ?_⟩) (by assumption) ?_
                  rotate_left
                  · intro w hSw; (try dsimp only at hSw); go_simp; try with_reducible rfl
                  try simp only [Act.put, List.setIfInBounds_toArray, List.set_cons_zero, List.set_cons_succ, List.getElem_toArray, List.getElem_cons_succ, List.getElem_cons_zero]
                  refine wpAnyH_done (by kernel_rfl) ?_ _
                  have PF := Lib.hid (FIN.out _ BK.out YK.out CK.out)
                  clear FIN CE BI YI CI BJ YJ CJ QJ BK YK CK LVz
                  go_wp2
                  try rw [hw1]
                  try rw [hw2]
                  exact ⟨PF.out, MES.out⟩
              · have hjl : ¬ yi < (ln : Int) := by have := HJ.out.1; omega
                have htk : l.take j = l := List.take_of_length_le (by have := HLN.out; omega)
                have hyo : yo = (opC T l : Int) := by have := HJ.out.2.2.1; rwa [htk] at this
                have hgg : gd = true ↔ GdL T l := by have := HJ.out.2.2.2; rwa [htk] at this
                have HGG := Lib.hid hgg
                have HYO := Lib.hid hyo
                have REL : Hid (∃ (k : Nat) (y2 : Int), Value.int .i64 (y + 1) = .int .i64 y2 ∧ Hid (y2 = (k : Int) ∧ k ≤ n + m) ∧ Hid (UW w b3 vars vs n vk cs s ms ts T0 wr) ∧ Hid (UN b7 s7 tn k7 conf 0 zv wr)) := ⟨k + 1, y + 1, rfl, ⟨by have := HY.out; omega, by have := HY.out; omega⟩, B15, Y15⟩
                have MES2 : Hid ((((n : Int) + (m : Int)) - (y + 1)).toNat < (((n : Int) + (m : Int)) - y).toNat) := by show _ < _; omega
                have hwy : wrap64 (y + 1) = y + 1 := wrap_in _ ⟨by omega, by omega⟩
                obtain ⟨yl, y0, y1, y2⟩ := Y15.out.facts
                clear HJ hyo hgg htk hj B15
                by_cases e1 : conf = y
                · obtain ⟨a1, a2⟩ := HFAL.out e1
                  have hgf : gd = false := by
                    cases gd with
                    | true => exact absurd (HGG.out.1 rfl) a1
                    | false => rfl
                  have hy0' : yo = 0 := by rw [HYO.out, a2]; rfl
                  have e2 : (conf == y) = true := by rw [e1]; simp
                  have e3 : (conf == -1) = false := beq_eq_false_iff_ne.2 (by omega)
                  subst hgf
                  subst hy0'
                  clear HYO HGG HFAL HFIN HLIT a1 a2 e1 HK HY
                  go_wp2
                  try rw [hwy]
                  exact ⟨REL.out, MES2.out⟩
                · have e2 : (conf == y) = false := beq_eq_false_iff_ne.2 e1
                  by_cases e4 : conf = -1
                  · have e3 : (conf == -1) = true := by rw [e4]; rfl
                    have hfi := HFIN.out e4
                    cases gd with
                    | true =>
                      clear HYO HGG HFAL HFIN HLIT e1 HK HY e4 hfi
                      go_wp2
                      try rw [hwy]
                      exact ⟨REL.out, MES2.out⟩
                    | false =>
                      have h2 : ¬ yo < 2 := by
                        rcases hfi with h | h
                        · have := HGG.out.2 h; cases this
                        · have := HYO.out; omega
                      clear HYO HGG HFAL HFIN HLIT e1 HK HY e4 hfi
                      go_wp2
                      try rw [hwy]
                      exact ⟨REL.out, MES2.out⟩
                  · have e3 : (conf == -1) = false := beq_eq_false_iff_ne.2 e4
                    clear HYO HGG HFAL HFIN HLIT e1 HK HY e4
                    go_wp2
                    try rw [hwy]
                    exact ⟨REL.out, MES2.out⟩
          · have hlt : ¬ y < (n : Int) + (m : Int) := by have := HK.out.1; omega
            go_wp2
            go_ret
            exact ⟨rfl, B13.out.bel⟩
      · have hc' : (cd == 0) = false := beq_eq_false_iff_ne.2 hc
        go_wp2
        go_ret
        exact ⟨rfl, BS.out.bel⟩
    · have BA := Lib.hid (B8.out.below (bA0 w8 (.cells #[.slice none 0 0, .int .i64 0, .int .i64 0] 30)))
      have GA := Lib.hid (G8.out.below (bA0 w8 (.cells #[.slice none 0 0, .int .i64 0, .int .i64 0] 30)))
      have XA : Hid (BoxU (w8.alloc (.cells #[.slice none 0 0, .int .i64 0, .int .i64 0] 30)) w8.heap.size) := new_at _ _
      have NA : Hid (b6 ≠ w8.heap.size) := fun e => by have := G8.out.lt; omega
      have FA : Hid (Fr w8 w8.heap.size (w8.alloc (.cells #[.slice none 0 0, .int .i64 0, .int .i64 0] 30))) := ⟨rfl, bA0 _ _⟩
      have BU := B8
      have QA := Lib.hid (own_below Q8.out (bA0 w8 (.cells #[.slice none 0 0, .int .i64 0, .int .i64 0] 30)))
      go_simp
      refine hK.out _ _ ?_ (fun hHeld => ?_)
      · exact BA.out.cells
      clear hK K
      generalize w8.alloc (.cells #[.slice none 0 0, .int .i64 0, .int .i64 0] 30) = wa at *
      generalize w8.heap.size = b7 at *
      refine wpAnyH_ready (rs := [4]) (by kernel_rfl) (by simp) ?_
      refine AllReadyH.cons rfl (fun K hK => ?_) AllReadyH.nil
      go_simp
      go_wp2_with (go_at_call 11; refine (IU.out _ _ _ _ BA.out QA.out).mono ?_; rintro e w7 ⟨s7, k7, rfl, q7, b7'⟩)
      have B7 := Lib.hid (BA.out.below b7')
      have G7 := Lib.hid (GA.out.below b7')
      have XB := Lib.hid (XA.out.below b7')
      clear XA
      have XA := XB
      clear XB
      have FB := Lib.hid (FA.out.below b7')
      clear FA
      have FA := FB
      clear FB
      have T7 : Hid (w7.ownsRow 0 2 1 (.slice s7 tn k7) tn zv) := own_mono q7 (Nat.zero_le _)
      clear q7 b7'
      refine hK.out _ _ ?_ (fun hHeld => ?_)
      · exact B7.out.cells
      clear hK K
      refine wpAnyH_ready (rs := [6]) (by kernel_rfl) (by simp) ?_
      refine AllReadyH.cons rfl (fun K hK => ?_) AllReadyH.nil
      have OS : Only b7 w7 (((w7.setCell ⟨b7, 0, none⟩ (.slice s7 tn k7)).setCell ⟨b7, 1, none⟩ (.int .i64 conf)).setCell ⟨b7, 2, none⟩ (.int .i64 cd)) := (((Only.refl b7 w7).setCell 0 _).setCell 1 _).setCell 2 _
      have BS := Lib.hid (BU.out.fr FA.out OS)
      have GS : Hid (BoxA (((w7.setCell ⟨b7, 0, none⟩ (.slice s7 tn k7)).setCell ⟨b7, 1, none⟩ (.int .i64 conf)).setCell ⟨b7, 2, none⟩ (.int .i64 cd)) b6 s6 tn k6 conf cd) := (OS.block b6 G7.out.lt NA.out).trans G7.out
      have YS : Hid (UN b7 s7 tn k7 conf cd zv (((w7.setCell ⟨b7, 0, none⟩ (.slice s7 tn k7)).setCell ⟨b7, 1, none⟩ (.int .i64 conf)).setCell ⟨b7, 2, none⟩ (.int .i64 cd))) := ⟨⟨0, own_only T7.out OS XA.out (by decide)⟩, heap_setCell_same _ b7 2 _ 30 (.int .i64 cd) (heap_setCell_same _ b7 1 _ 30 (.int .i64 conf) (heap_setCell_same w7 b7 0 _ 30 (.slice s7 tn k7) XA.out))⟩
      obtain ⟨zl, z0, z1, z2, f0, f1, f2⟩ := XA.out.facts
      clear OS
      go_simp
      refine hK.out _ _ ?_ (fun hHeld => ?_)
      · exact BS.out.cells
      clear hK K
      clear zl z0 z1 z2 f0 f1 f2 XA NA T7 FA BU
      generalize (((w7.setCell ⟨b7, 0, none⟩ (.slice s7 tn k7)).setCell ⟨b7, 1, none⟩ (.int .i64 conf)).setCell ⟨b7, 2, none⟩ (.int .i64 cd)) = w9 at *
      refine wpAnyH_done (by kernel_rfl) ?_ _
      have BE := Lib.hid BS.out.drew
      have YE := Lib.hid YS.out.drew
      obtain ⟨yl, y0, y1, y2⟩ := YS.out.facts
      obtain ⟨ga, gb, gc, gd⟩ := box3 GS.out
      by_cases hc : cd = 0
      · subst hc
        have HR := Lib.hid (RO.out rfl)
        have hlen := HR.out.1
        have hcap := YS.out.cap
        have hlen' : ¬ (tn : Int) < (tn0 : Int) := by omega
        have hc1 : (tn0 : Int) ≤ (k7 : Int) := by omega
        have SM := Lib.hid (SM0.out rfl)
        have TR := Lib.hid (TR0.out rfl)
        go_wp2_with fail
        have hdec : ((tn : Int) < (tn0 : Int)) = False := eq_false (by omega)
        refine wp_region_held_drew (S := fun W => (b3 < W.heap.size ∧ W.cell? ⟨b3, 0, none⟩ = some (.int .i64 vars) ∧ W.cell? ⟨b3, 1, none⟩ = some (.slice vs n vk)) ∧ b7 < W.heap.size ∧ W.cell? ⟨b7, 0, none⟩ = some (.slice s7 tn k7)) (by kernel_rfl) ?_ (fun hHeld => ?_)
        · exact ⟨BE.out.cells, YE.out.two⟩
        generalize w9.drew = we at *
        refine wpAnyH_take (i := 0) (oi := _) (v := ?_) rfl (by kernel_rfl) (by kernel_rfl) (by kernel_rfl) (fun _ _ _ h => h) (Or.inl ⟨by rfl, ?_⟩) (by assumption) ?_
        rotate_left
        · intro w hSw; (try dsimp only at hSw); go_simp; try with_reducible rfl
        try simp only [Act.put, List.setIfInBounds_toArray, List.set_cons_zero, List.set_cons_succ, List.getElem_toArray, List.getElem_cons_zero]
        refine wpAnyH_take (i := 1) (oi := _) (v := ?_) rfl (by kernel_rfl) (by kernel_rfl) (by kernel_rfl) (fun _ _ _ h => h) (Or.inl ⟨by rfl, ?_⟩) (by assumption) ?_
        rotate_left
        · intro w hSw; (try dsimp only at hSw); go_simp; try with_reducible rfl
        try simp only [Act.put, List.setIfInBounds_toArray, List.set_cons_zero, List.set_cons_succ, List.getElem_toArray, List.getElem_cons_succ, List.getElem_cons_zero]
        refine wpAnyH_take (i := 2) (oi := _) (v := ?_) rfl (by kernel_rfl) (by kernel_rfl) (by kernel_rfl) (fun _ _ _ h => h) (Or.inl ⟨by rfl, ?_⟩) (by assumption) ?_
        rotate_left
        · intro w hSw; (try dsimp only at hSw); go_simp; try with_reducible rfl
        try simp only [Act.put, List.setIfInBounds_toArray, List.set_cons_zero, List.set_cons_succ, List.getElem_toArray, List.getElem_cons_succ, List.getElem_cons_zero]
        refine wpAnyH_take (i := 3) (oi := _) (v := ?_) rfl (by kernel_rfl) (by kernel_rfl) (by kernel_rfl) (fun _ _ _ h => h) (Or.inl ⟨by rfl, ?_⟩) (by assumption) ?_
        rotate_left
        · intro w hSw; (try dsimp only at hSw); go_simp; try with_reducible rfl
        try simp only [Act.put, List.setIfInBounds_toArray, List.set_cons_zero, List.set_cons_succ, List.getElem_toArray, List.getElem_cons_succ, List.getElem_cons_zero]
        refine wpAnyH_take (i := 4) (oi := _) (v := ?_) rfl (by kernel_rfl) (by kernel_rfl) (by kernel_rfl) (fun _ _ _ h => h) (Or.inl ⟨by rfl, ?_⟩) (by assumption) ?_
        rotate_left
        · intro w hSw; (try dsimp only at hSw); go_simp; try with_reducible rfl
        try simp only [Act.put, List.setIfInBounds_toArray, List.set_cons_zero, List.set_cons_succ, List.getElem_toArray, List.getElem_cons_succ, List.getElem_cons_zero]
        refine wpAnyH_take (i := 5) (oi := _) (v := ?_) rfl (by kernel_rfl) (by kernel_rfl) (by kernel_rfl) (fun _ _ _ h => h) (Or.inl ⟨by rfl, ?_⟩) (by assumption) ?_
        rotate_left
        · intro w hSw; (try dsimp only at hSw); go_simp; try with_reducible rfl
        try simp only [Act.put, List.setIfInBounds_toArray, List.set_cons_zero, List.set_cons_succ, List.getElem_toArray, List.getElem_cons_succ, List.getElem_cons_zero]
        refine wpAnyH_take (i := 6) (oi := _) (v := ?_) rfl (by kernel_rfl) (by kernel_rfl) (by kernel_rfl) (fun _ _ _ h => h) (Or.inl ⟨by rfl, ?_⟩) (by assumption) ?_
        rotate_left
        · intro w hSw; (try dsimp only at hSw); go_simp; try with_reducible rfl
        try simp only [Act.put, List.setIfInBounds_toArray, List.set_cons_zero, List.set_cons_succ, List.getElem_toArray, List.getElem_cons_succ, List.getElem_cons_zero]
        refine wpAnyH_take (i := 7) (oi := _) (v := ?_) rfl (by kernel_rfl) (by kernel_rfl) (by kernel_rfl) (fun _ _ _ h => h) (Or.inl ⟨by rfl, ?_⟩) (by assumption) ?_
        rotate_left
        · intro w hSw; (try dsimp only at hSw); go_simp; try with_reducible rfl
        try simp only [Act.put, List.setIfInBounds_toArray, List.set_cons_zero, List.set_cons_succ, List.getElem_toArray, List.getElem_cons_succ, List.getElem_cons_zero]
        refine wpAnyH_take (i := 8) (oi := _) (v := ?_) rfl (by kernel_rfl) (by kernel_rfl) (by kernel_rfl) (fun _ _ _ h => h) (Or.inl ⟨by rfl, ?_⟩) (by assumption) ?_
        rotate_left
        · intro w hSw; (try dsimp only at hSw); go_simp; try with_reducible rfl
        try simp only [Act.put, List.setIfInBounds_toArray, List.set_cons_zero, List.set_cons_succ, List.getElem_toArray, List.getElem_cons_succ, List.getElem_cons_zero]
        refine wpAnyH_take (i := 9) (oi := _) (v := ?_) rfl (by kernel_rfl) (by kernel_rfl) (by kernel_rfl) (fun _ _ _ h => h) (Or.inl ⟨by rfl, ?_⟩) (by assumption) ?_
        rotate_left
        · intro w hSw; (try dsimp only at hSw); go_simp; try with_reducible rfl
        try simp only [Act.put, List.setIfInBounds_toArray, List.set_cons_zero, List.set_cons_succ, List.getElem_toArray, List.getElem_cons_succ, List.getElem_cons_zero]
        refine wpAnyH_take (i := 10) (oi := _) (v := ?_) rfl (by kernel_rfl) (by kernel_rfl) (by kernel_rfl) (fun _ _ _ h => h) (Or.inl ⟨by rfl, ?_⟩) (by assumption) ?_
        rotate_left
        · intro w hSw; (try dsimp only at hSw); go_simp; try with_reducible rfl
        try simp only [Act.put, List.setIfInBounds_toArray, List.set_cons_zero, List.set_cons_succ, List.getElem_toArray, List.getElem_cons_succ, List.getElem_cons_zero]
        refine wpAnyH_take (i := 11) (oi := _) (v := ?_) rfl (by kernel_rfl) (by kernel_rfl) (by kernel_rfl) (fun _ _ _ h => h) (Or.inl ⟨by rfl, ?_⟩) (by assumption) ?_
        rotate_left
        · intro w hSw; (try dsimp only at hSw); go_simp; try with_reducible rfl
        try simp only [Act.put, List.setIfInBounds_toArray, List.set_cons_zero, List.set_cons_succ, List.getElem_toArray, List.getElem_cons_succ, List.getElem_cons_zero]
        refine wpAnyH_take (i := 12) (oi := _) (v := ?_) rfl (by kernel_rfl) (by kernel_rfl) (by kernel_rfl) (fun _ _ _ h => h) (Or.inl ⟨by rfl, ?_⟩) (by assumption) ?_
        rotate_left
        · intro w hSw; (try dsimp only at hSw); go_simp; try with_reducible rfl
        try simp only [Act.put, List.setIfInBounds_toArray, List.set_cons_zero, List.set_cons_succ, List.getElem_toArray, List.getElem_cons_succ, List.getElem_cons_zero]
        refine wpAnyH_ready (rs := [13]) (by kernel_rfl) (by simp) ?_
        refine AllReadyH.cons rfl (fun K hK => ?_) AllReadyH.nil
        go_simp
        go_wp2_with (go_at_call 13; refine (SM.out _ _ _ _ BE.out YE.out).mono ?_; rintro e w10 ⟨rfl, b10⟩)
        have BF := Lib.hid (BE.out.below b10)
        have YF := Lib.hid (YE.out.below b10)
        clear b10
        refine hK.out _ _ ?_ (fun hHeld => ?_)
        · exact ⟨BF.out.cells, YF.out.two⟩
        clear hK K
        refine wpAnyH_take (i := 14) (oi := _) (v := ?_) rfl (by kernel_rfl) (by kernel_rfl) (by kernel_rfl) (fun _ _ _ h => h) (Or.inl ⟨by rfl, ?_⟩) (by assumption) ?_
        rotate_left
        · intro w hSw; (try dsimp only at hSw); go_simp; try with_reducible rfl
        try simp only [Act.put, List.setIfInBounds_toArray, List.set_cons_zero, List.set_cons_succ, List.getElem_toArray, List.getElem_cons_succ, List.getElem_cons_zero]
        refine wpAnyH_take (i := 15) (oi := _) (v := ?_) rfl (by kernel_rfl) (by kernel_rfl) (by kernel_rfl) (fun _ _ _ h => h) (Or.inl ⟨by rfl, ?_⟩) (by assumption) ?_
        rotate_left
        · intro w hSw; (try dsimp only at hSw); go_simp; try with_reducible rfl
        try simp only [Act.put, List.setIfInBounds_toArray, List.set_cons_zero, List.set_cons_succ, List.getElem_toArray, List.getElem_cons_succ, List.getElem_cons_zero]
        refine wpAnyH_take (i := 16) (oi := _) (v := ?_) rfl (by kernel_rfl) (by kernel_rfl) (by kernel_rfl) (fun _ _ _ h => h) (Or.inl ⟨by rfl, ?_⟩) (by assumption) ?_
        rotate_left
        · intro w hSw; (try dsimp only at hSw); go_simp; try with_reducible rfl
        try simp only [Act.put, List.setIfInBounds_toArray, List.set_cons_zero, List.set_cons_succ, List.getElem_toArray, List.getElem_cons_succ, List.getElem_cons_zero]
        refine wpAnyH_take (i := 17) (oi := _) (v := ?_) rfl (by kernel_rfl) (by kernel_rfl) (by kernel_rfl) (fun _ _ _ h => h) (Or.inl ⟨by rfl, ?_⟩) (by assumption) ?_
        rotate_left
        · intro w hSw; (try dsimp only at hSw); go_simp; try with_reducible rfl
        try simp only [Act.put, List.setIfInBounds_toArray, List.set_cons_zero, List.set_cons_succ, List.getElem_toArray, List.getElem_cons_succ, List.getElem_cons_zero]
        refine wpAnyH_take (i := 18) (oi := _) (v := ?_) rfl (by kernel_rfl) (by kernel_rfl) (by kernel_rfl) (fun _ _ _ h => h) (Or.inl ⟨by rfl, ?_⟩) (by assumption) ?_
        rotate_left
        · intro w hSw; (try dsimp only at hSw); go_simp; try with_reducible rfl
        try simp only [Act.put, List.setIfInBounds_toArray, List.set_cons_zero, List.set_cons_succ, List.getElem_toArray, List.getElem_cons_succ, List.getElem_cons_zero]
        refine wpAnyH_take (i := 19) (oi := _) (v := ?_) rfl (by kernel_rfl) (by kernel_rfl) (by kernel_rfl) (fun _ _ _ h => h) (Or.inl ⟨by rfl, ?_⟩) (by assumption) ?_
        rotate_left
        · intro w hSw; (try dsimp only at hSw); go_simp; try with_reducible rfl
        try simp only [Act.put, List.setIfInBounds_toArray, List.set_cons_zero, List.set_cons_succ, List.getElem_toArray, List.getElem_cons_succ, List.getElem_cons_zero]
        refine wpAnyH_ready (rs := [20]) (by kernel_rfl) (by simp) ?_
        refine AllReadyH.cons rfl (fun K hK => ?_) AllReadyH.nil
        go_simp
        go_wp2_with (go_at_call 12; refine (LC.out _ _ _ _ YF.out).mono ?_; rintro e w11 ⟨s11, k11, rfl, q11, b11⟩)
        have BG := Lib.hid (BF.out.below b11)
        have YG := Lib.hid (YF.out.below b11)
        have QG := Lib.hid q11
        clear q11 b11
        refine hK.out _ _ ?_ (fun hHeld => ?_)
        · exact ⟨BG.out.cells, YG.out.two⟩
        clear hK K
        refine wpAnyH_ready (rs := [21]) (by kernel_rfl) (by simp) ?_
        refine AllReadyH.cons rfl (fun K hK => ?_) AllReadyH.nil
        go_simp
        go_wp2_with (go_at_call 14; refine (TR.out _ _ _ _ BG.out QG.out).mono ?_; rintro e w12 ⟨rfl, b12⟩)
        have BH := Lib.hid (BG.out.below b12)
        have YH := Lib.hid (YG.out.below b12)
        clear b12
        refine hK.out _ _ ?_ (fun hHeld => ?_)
        · exact ⟨BH.out.cells, YH.out.two⟩
        clear hK K
        refine wpAnyH_take (i := 22) (oi := _) (v := ?_) rfl (by kernel_rfl) (by kernel_rfl) (by kernel_rfl) (fun _ _ _ h => h) (Or.inl ⟨by rfl, ?_⟩) (by assumption) ?_
        rotate_left
        · intro w hSw; (try dsimp only at hSw); go_simp; try with_reducible rfl
        try simp only [Act.put, List.setIfInBounds_toArray, List.set_cons_zero, List.set_cons_succ, List.getElem_toArray, List.getElem_cons_succ, List.getElem_cons_zero]
        refine wpAnyH_take (i := 23) (oi := _) (v := ?_) rfl (by kernel_rfl) (by kernel_rfl) (by kernel_rfl) (fun _ _ _ h => h) (Or.inl ⟨by rfl, ?_⟩) (by assumption) ?_
        rotate_left
        · intro w hSw; (try dsimp only at hSw); go_simp; try with_reducible rfl
        try simp only [Act.put, List.setIfInBounds_toArray, List.set_cons_zero, List.set_cons_succ, List.getElem_toArray, List.getElem_cons_succ, List.getElem_cons_zero]
        refine wpAnyH_done (by kernel_rfl) ?_ _
        have LW1 : Hid (∀ (y : Int) (k : Nat) (hk : k < (cs ++ ms).length), y = (k : Int) → ∀ W, UW w b3 vars vs n vk cs s ms ts T0 W → Calls Tryd.prog 15 #[CV vars vs n vk, .slice s m sk, .int .i64 y] W (LcP (cs ++ ms)[k].2 W)) := fun y k hk e W h => by subst e; exact LW.out k hk W h
        have HL : Hid (∀ (k : Nat) (hk : k < (cs ++ ms).length), (∀ z ∈ (cs ++ ms)[k].2, litF T z = val T z) ∧ (conf = (k : Int) → ¬ GdL T (cs ++ ms)[k].2 ∧ opC T (cs ++ ms)[k].2 = 0) ∧ (conf = -1 → GdL T (cs ++ ms)[k].2 ∨ 2 ≤ opC T (cs ++ ms)[k].2)) := fun k hk => by
          have he : bareC cs ++ bareC ms = (cs ++ ms).map fun r => r.2 := by simp [bareC]
          have hk' : k < (bareC cs ++ bareC ms).length := by rw [he, List.length_map]; exact hk
          have e : (bareC cs ++ bareC ms)[k] = (cs ++ ms)[k].2 := by simp only [he, List.getElem_map]
          have hm : (cs ++ ms)[k].2 ∈ bareC cs ++ bareC ms := by rw [← e]; exact List.getElem_mem hk'
          have h1 := HR.out.2.fals k hk'
          rw [e] at h1
          exact ⟨HR.out.2.lits _ hm, h1, fun g => HR.out.2.fine g _ hm⟩
        have HN : Hid ((cs ++ ms).length = n + m) := by show _ = _; rw [List.length_append, HX.out.1, HX.out.2]
        have B12 := BH
        have Y12 := YH
        clear LW HR SM TR LC0 IU RO SM0 TR0 BE YE BF YF BG YG QG BH YH BS GS YS yl y0 y1 y2 ga gb gc gd
        obtain ⟨tl, t0, t1⟩ := B12.out.cells
        go_wp2
        clear tl t0 t1
        go_loopw [9] (fun a wr => ∃ (k : Nat) (y : Int), a = .int .i64 y ∧ Hid (y = (k : Int) ∧ k ≤ n + m) ∧ Hid (UW w b3 vars vs n vk cs s ms ts T0 wr) ∧ Hid (UN b7 s7 tn k7 conf 0 zv wr)) (fun a _ => (((n : Int) + (m : Int)) - intOf a).toNat)
        case atStart =>
          exact ⟨0, 0, rfl, ⟨rfl, Nat.zero_le _⟩, B12, Y12⟩
        case round =>
          obtain ⟨k, y, rfl, HK, B13, Y13⟩ := hrel
          clear B12 Y12
          obtain ⟨tl, t0, t1⟩ := B13.out.cells
          by_cases hk : k < n + m
          · have hlt : y < (n : Int) + (m : Int) := by have := HK.out.1; omega
            have hy0 : 0 ≤ y := by have := HK.out.1; omega
            have hk2 : k < (cs ++ ms).length := by rw [HN.out]; exact hk
            have L13 := Lib.hid (LW1.out y k hk2 HK.out.1 _ B13.out)
            have H13 := Lib.hid (HL.out k hk2)
            have HY : Hid (y = (k : Int)) := HK.out.1
            have hnm : (n : Int) + (m : Int) ≤ 100000 := by omega
            clear hk
            go_wp2_with fail
            refine L13.out.mono ?_
            rintro e w14 ⟨s1, k1, rfl, hi, hl1, b14⟩
            have B14 := Lib.hid (B13.out.below b14)
            have Y14 := Lib.hid (Y13.out.below b14)
            have I14 := Lib.hid hi
            unfold maxLen at hl1
            clear hi b14 L13 B13 Y13 tl t0 t1
            generalize (cs ++ ms)[k].2 = l at *
            obtain ⟨hlit, hfal, hfin⟩ := H13.out
            have HLIT := Lib.hid hlit
            have HFAL : Hid (conf = y → ¬ GdL T l ∧ opC T l = 0) := fun e => hfal (e.trans HY.out)
            have HFIN := Lib.hid hfin
            clear hlit hfal hfin H13
            generalize hln : l.length = ln at *
            have HLN := Lib.hid hln
            clear hln
            go_wp2
            go_loopw [11, 12, 13] (fun o g i wr => ∃ (j : Nat) (gd : Bool) (yo yi : Int), o = .int .i64 yo ∧ g = .bool gd ∧ i = .int .i64 yi ∧ Hid (yi = (j : Int) ∧ j ≤ ln ∧ yo = (opC T (l.take j) : Int) ∧ (gd = true ↔ GdL T (l.take j))) ∧ Hid (UW w b3 vars vs n vk cs s ms ts T0 wr) ∧ Hid (UN b7 s7 tn k7 conf 0 zv wr) ∧ Hid (Ints wr s1 l)) (fun _ _ i _ => ((ln : Int) - intOf i).toNat)
            case atStart =>
              exact ⟨0, false, 0, 0, rfl, rfl, rfl, ⟨rfl, Nat.zero_le _, by simp [opC], by simp [GdL]⟩, B14, Y14, I14⟩
            case round =>
              obtain ⟨j, gd, yo, yi, rfl, rfl, rfl, HJ, B15, Y15, I15⟩ := hrel
              clear B14 Y14 I14
              have hyi0 : 0 ≤ yi := by have := HJ.out.1; omega
              have hyo0 : 0 ≤ yo := by have := HJ.out.2.2.1; omega
              have hyo1 : yo ≤ yi := by
                have h1 := HJ.out.2.2.1
                have h2 := opC_le T (l.take j)
                have h3 : (l.take j).length ≤ j := by rw [List.length_take]; omega
                have h4 := HJ.out.1
                omega
              by_cases hj : j < ln
              · have hjl : yi < (ln : Int) := by have := HJ.out.1; omega
                obtain ⟨lc, lo, rfl, hlc, hcell0⟩ : ∃ lc lo, s1 = some ⟨lc, lo, none⟩ ∧ lc < wr.heap.size ∧ ∀ i, i < l.length → wr.cell? ⟨lc, lo + i, none⟩ = some (.int .i64 (l.getD i 0)) := by
                  rcases I15.out with h | ⟨c, o, e, h1, h2⟩
                  · have := HLN.out; rw [h] at this; simp at this; omega
                  · exact ⟨c, o, e, h1, h2⟩
                have hjl2 : j < l.length := by rw [HLN.out]; exact hj
                have hcell := hcell0 j hjl2
                have hzm : l.getD j 0 ∈ l := by simp [List.getD_eq_getElem?_getD, hjl2]
                have hzv := HLIT.out _ hzm
                have hop := opC_step T l j hjl2
                have hgd := GdL_step T l j hjl2
                have NEXT : Hid (∀ (wr' : World) (yo' : Int) (gd' : Bool), yo' = (opC T (l.take (j + 1)) : Int) → (gd' = true ↔ GdL T (l.take (j + 1))) → UW w b3 vars vs n vk cs s ms ts T0 wr' → UN b7 s7 tn k7 conf 0 zv wr' → Ints wr' (some ⟨lc, lo, none⟩) l → ∃ (j : Nat) (gd : Bool) (yo yi2 : Int), Value.int .i64 yo' = .int .i64 yo ∧ Value.bool gd' = .bool gd ∧ Value.int .i64 (yi + 1) = .int .i64 yi2 ∧ Hid (yi2 = (j : Int) ∧ j ≤ ln ∧ yo = (opC T (l.take j) : Int) ∧ (gd = true ↔ GdL T (l.take j))) ∧ Hid (UW w b3 vars vs n vk cs s ms ts T0 wr') ∧ Hid (UN b7 s7 tn k7 conf 0 zv wr') ∧ Hid (Ints wr' (some ⟨lc, lo, none⟩) l)) := fun wr' yo' gd' h1 h2 h3 h4 h5 =>
                  ⟨j + 1, gd', yo', yi + 1, rfl, rfl, rfl, ⟨by have := HJ.out.1; omega, by omega, h1, h2⟩, h3, h4, h5⟩
                have MES : Hid (((ln : Int) - (yi + 1)).toNat < ((ln : Int) - yi).toNat) := by show _ < _; omega
                have CI : Hid (Ints wr.drew (some ⟨lc, lo, none⟩) l) := I15.out.below (Below.refl _ _).drew
                have BI := Lib.hid B15.out.drew
                have YI := Lib.hid Y15.out.drew
                have CE : Hid (∀ W, Ints W (some ⟨lc, lo, none⟩) l → lc < W.heap.size ∧ ∀ (q : Int), q = yi → W.cell? ⟨lc, lo + q.toNat, none⟩ = some (.int .i64 (l.getD j 0))) := fun W h => by
                  rcases h with h | ⟨c, o, e, h1, h2⟩
                  · rw [h] at hjl2; simp at hjl2
                  · cases e
                    exact ⟨h1, fun q hq => by rw [hq, show yi.toNat = j by have := HJ.out.1; omega]; exact h2 j hjl2⟩
                have hcw := (CE.out _ I15.out).2 yi rfl
                have hw1 : wrap64 (yi + 1) = yi + 1 := wrap_in _ ⟨by omega, by omega⟩
                have hw2 : wrap64 (yo + 1) = yo + 1 := wrap_in _ ⟨by omega, by omega⟩
                generalize hzz : l.getD j 0 = z at *
                have V3 : (litF T z = 1 ∧ val T z = 1) ∨ (litF T z = -1 ∧ val T z = -1) ∨ (litF T z = 0 ∧ val T z = 0) := by
                  rcases val_cases T z with ⟨e, _⟩ | ⟨e, _⟩ | ⟨e, _⟩
                  · exact .inl ⟨hzv.trans e, e⟩
                  · exact .inr (.inl ⟨hzv.trans e, e⟩)
                  · exact .inr (.inr ⟨hzv.trans e, e⟩)
                clear hzv hzm hzz hcell hcell0 hjl2 I15 B15 Y15
                rcases V3 with ⟨v1, v2⟩ | ⟨v1, v2⟩ | ⟨v1, v2⟩
                · rw [if_neg (by omega)] at hop
                  have hg2 : GdL T (l.take (j + 1)) := hgd.2 (.inr v2)
                  have FIN := Lib.hid (fun wr' => NEXT.out wr' yo true (by rw [hop]; exact HJ.out.2.2.1) ⟨fun _ => hg2, fun _ => rfl⟩)
                  have LVz : Hid (∀ (B : Nat) (W : World) s' k', W.ownsRow B 2 1 (.slice s' tn k') tn zv → Calls Tryd.prog 16 #[.slice s' tn k', .int .i64 z] W fun e w' => e = .returned (.int .i64 1) ∧ Below W.heap.size W w') := fun B W s' k' o => by rw [← v1]; exact LV.out B W s' k' z o
                  clear NEXT hop hgd HJ v1 v2
                  go_wp2_with fail
                  refine wp_region_held_drew (S := fun W => (b7 < W.heap.size ∧ W.cell? ⟨b7, 0, none⟩ = some (.slice s7 tn k7)) ∧ lc < W.heap.size ∧ W.cell? ⟨lc, lo + yi.toNat, none⟩ = some (.int .i64 z)) (by kernel_rfl) ?_ (fun hHeld => ?_)
                  · exact ⟨YI.out.two, (CE.out _ CI.out).1, (CE.out _ CI.out).2 yi rfl⟩
                  generalize wr.drew = wi at *
                  refine wpAnyH_take (i := 0) (oi := _) (v := ?_) rfl (by kernel_rfl) (by kernel_rfl) (by kernel_rfl) (fun _ _ _ h => h) (Or.inl ⟨by rfl, ?_⟩) (by assumption) ?_
                  rotate_left
                  · intro w hSw; (try dsimp only at hSw); go_simp; try with_reducible rfl
                  try simp only [Act.put, List.setIfInBounds_toArray, List.set_cons_zero, List.set_cons_succ, List.getElem_toArray, List.getElem_cons_zero]
                  refine wpAnyH_take (i := 1) (oi := _) (v := ?_) rfl (by kernel_rfl) (by kernel_rfl) (by kernel_rfl) (fun _ _ _ h => h) (Or.inl ⟨by rfl, ?_⟩) (by assumption) ?_
                  rotate_left
                  · intro w hSw; (try dsimp only at hSw); go_simp; try with_reducible rfl
                  try simp only [Act.put, List.setIfInBounds_toArray, List.set_cons_zero, List.set_cons_succ, List.getElem_toArray, List.getElem_cons_succ, List.getElem_cons_zero]
                  refine wpAnyH_take (i := 3) (oi := _) (v := ?_) rfl (by kernel_rfl) (by kernel_rfl) (by kernel_rfl) (fun _ _ _ h => h) (Or.inl ⟨by rfl, ?_⟩) (by assumption) ?_
                  rotate_left
                  · intro w hSw; (try dsimp only at hSw); go_simp; try with_reducible rfl
                  try simp only [Act.put, List.setIfInBounds_toArray, List.set_cons_zero, List.set_cons_succ, List.getElem_toArray, List.getElem_cons_succ, List.getElem_cons_zero]
                  refine wpAnyH_take (i := 4) (oi := _) (v := ?_) rfl (by kernel_rfl) (by kernel_rfl) (by kernel_rfl) (fun _ _ _ h => h) (Or.inl ⟨by rfl, ?_⟩) (by assumption) ?_
                  rotate_left
                  · intro w hSw; (try dsimp only at hSw); go_simp; try with_reducible rfl
                  try simp only [Act.put, List.setIfInBounds_toArray, List.set_cons_zero, List.set_cons_succ, List.getElem_toArray, List.getElem_cons_succ, List.getElem_cons_zero]
                  refine wpAnyH_take (i := 5) (oi := _) (v := ?_) rfl (by kernel_rfl) (by kernel_rfl) (by kernel_rfl) (fun _ _ _ h => h) (Or.inl ⟨by rfl, ?_⟩) (by assumption) ?_
                  rotate_left
                  · intro w hSw; (try dsimp only at hSw); go_simp; try with_reducible rfl
                  try simp only [Act.put, List.setIfInBounds_toArray, List.set_cons_zero, List.set_cons_succ, List.getElem_toArray, List.getElem_cons_succ, List.getElem_cons_zero]
                  refine wpAnyH_take (i := 6) (oi := _) (v := ?_) rfl (by kernel_rfl) (by kernel_rfl) (by kernel_rfl) (fun _ _ _ h => h) (Or.inl ⟨by rfl, ?_⟩) (by assumption) ?_
                  rotate_left
                  · intro w hSw; (try dsimp only at hSw); go_simp; try with_reducible rfl
                  try simp only [Act.put, List.setIfInBounds_toArray, List.set_cons_zero, List.set_cons_succ, List.getElem_toArray, List.getElem_cons_succ, List.getElem_cons_zero]
                  refine wpAnyH_ready (rs := [2]) (by kernel_rfl) (by simp) ?_
                  refine AllReadyH.cons rfl (fun K hK => ?_) AllReadyH.nil
                  go_simp
                  go_wp2_with (go_at_call 12; refine (LC.out _ _ _ _ YI.out).mono ?_; rintro e w15 ⟨s15, k15, rfl, q15, b15⟩)
                  have BJ := Lib.hid (BI.out.below b15)
                  have YJ := Lib.hid (YI.out.below b15)
                  have CJ := Lib.hid (CI.out.below b15)
                  have QJ := Lib.hid q15
                  clear q15 b15
                  refine hK.out _ _ ?_ (fun hHeld => ?_)
                  · exact ⟨YJ.out.two, (CE.out _ CJ.out).1, (CE.out _ CJ.out).2 yi rfl⟩
                  clear hK K
                  refine wpAnyH_ready (rs := [7]) (by kernel_rfl) (by simp) ?_
                  refine AllReadyH.cons rfl (fun K hK => ?_) AllReadyH.nil
                  go_simp
                  go_wp2_with (go_at_call 16; refine (LVz.out _ _ _ _ QJ.out).mono ?_; rintro e w16 ⟨rfl, b16⟩)
                  have BK := Lib.hid (BJ.out.below b16)
                  have YK := Lib.hid (YJ.out.below b16)
                  have CK := Lib.hid (CJ.out.below b16)
                  clear b16
                  refine hK.out _ _ ?_ (fun hHeld => ?_)
                  · exact ⟨YK.out.two, (CE.out _ CK.out).1, (CE.out _ CK.out).2 yi rfl⟩
                  clear hK K
                  refine wpAnyH_take (i := 8) (oi := _) (v := ?_) rfl (by kernel_rfl) (by kernel_rfl) (by kernel_rfl) (fun _ _ _ h => h) (Or.inl ⟨by rfl, ?_⟩) (by assumption) ?_
                  rotate_left
                  · intro w hSw; (try dsimp only at hSw); go_simp; try with_reducible rfl
                  try simp only [Act.put, List.setIfInBounds_toArray, List.set_cons_zero, List.set_cons_succ, List.getElem_toArray, List.getElem_cons_succ, List.getElem_cons_zero]
                  refine wpAnyH_done (by kernel_rfl) ?_ _
                  have PF := Lib.hid (FIN.out _ BK.out YK.out CK.out)
                  clear FIN CE BI YI CI BJ YJ CJ QJ BK YK CK LVz
                  go_wp2
                  try rw [hw1]
                  try rw [hw2]
                  exact ⟨PF.out, MES.out⟩
                · rw [if_neg (by omega)] at hop
                  have hg2 : gd = true ↔ GdL T (l.take (j + 1)) := ⟨fun h => hgd.2 (.inl (HJ.out.2.2.2.1 h)), fun h => by
                    rcases hgd.1 h with g | g
                    · exact HJ.out.2.2.2.2 g
                    · omega⟩
                  have FIN := Lib.hid (fun wr' => NEXT.out wr' yo gd (by rw [hop]; exact HJ.out.2.2.1) hg2)
                  have LVz : Hid (∀ (B : Nat) (W : World) s' k', W.ownsRow B 2 1 (.slice s' tn k') tn zv → Calls Tryd.prog 16 #[.slice s' tn k', .int .i64 z] W fun e w' => e = .returned (.int .i64 (-1)) ∧ Below W.heap.size W w') := fun B W s' k' o => by rw [← v1]; exact LV.out B W s' k' z o
                  clear NEXT hop hgd HJ v1 v2
                  go_wp2_with fail
                  refine wp_region_held_drew (S := fun W => (b7 < W.heap.size ∧ W.cell? ⟨b7, 0, none⟩ = some (.slice s7 tn k7)) ∧ lc < W.heap.size ∧ W.cell? ⟨lc, lo + yi.toNat, none⟩ = some (.int .i64 z)) (by kernel_rfl) ?_ (fun hHeld => ?_)
                  · exact ⟨YI.out.two, (CE.out _ CI.out).1, (CE.out _ CI.out).2 yi rfl⟩
                  generalize wr.drew = wi at *
                  refine wpAnyH_take (i := 0) (oi := _) (v := ?_) rfl (by kernel_rfl) (by kernel_rfl) (by kernel_rfl) (fun _ _ _ h => h) (Or.inl ⟨by rfl, ?_⟩) (by assumption) ?_
                  rotate_left
                  · intro w hSw; (try dsimp only at hSw); go_simp; try with_reducible rfl
                  try simp only [Act.put, List.setIfInBounds_toArray, List.set_cons_zero, List.set_cons_succ, List.getElem_toArray, List.getElem_cons_zero]
                  refine wpAnyH_take (i := 1) (oi := _) (v := ?_) rfl (by kernel_rfl) (by kernel_rfl) (by kernel_rfl) (fun _ _ _ h => h) (Or.inl ⟨by rfl, ?_⟩) (by assumption) ?_
                  rotate_left
                  · intro w hSw; (try dsimp only at hSw); go_simp; try with_reducible rfl
                  try simp only [Act.put, List.setIfInBounds_toArray, List.set_cons_zero, List.set_cons_succ, List.getElem_toArray, List.getElem_cons_succ, List.getElem_cons_zero]
                  refine wpAnyH_take (i := 3) (oi := _) (v := ?_) rfl (by kernel_rfl) (by kernel_rfl) (by kernel_rfl) (fun _ _ _ h => h) (Or.inl ⟨by rfl, ?_⟩) (by assumption) ?_
                  rotate_left
                  · intro w hSw; (try dsimp only at hSw); go_simp; try with_reducible rfl
                  try simp only [Act.put, List.setIfInBounds_toArray, List.set_cons_zero, List.set_cons_succ, List.getElem_toArray, List.getElem_cons_succ, List.getElem_cons_zero]
                  refine wpAnyH_take (i := 4) (oi := _) (v := ?_) rfl (by kernel_rfl) (by kernel_rfl) (by kernel_rfl) (fun _ _ _ h => h) (Or.inl ⟨by rfl, ?_⟩) (by assumption) ?_
                  rotate_left
                  · intro w hSw; (try dsimp only at hSw); go_simp; try with_reducible rfl
                  try simp only [Act.put, List.setIfInBounds_toArray, List.set_cons_zero, List.set_cons_succ, List.getElem_toArray, List.getElem_cons_succ, List.getElem_cons_zero]
                  refine wpAnyH_take (i := 5) (oi := _) (v := ?_) rfl (by kernel_rfl) (by kernel_rfl) (by kernel_rfl) (fun _ _ _ h => h) (Or.inl ⟨by rfl, ?_⟩) (by assumption) ?_
                  rotate_left
                  · intro w hSw; (try dsimp only at hSw); go_simp; try with_reducible rfl
                  try simp only [Act.put, List.setIfInBounds_toArray, List.set_cons_zero, List.set_cons_succ, List.getElem_toArray, List.getElem_cons_succ, List.getElem_cons_zero]
                  refine wpAnyH_take (i := 6) (oi := _) (v := ?_) rfl (by kernel_rfl) (by kernel_rfl) (by kernel_rfl) (fun _ _ _ h => h) (Or.inl ⟨by rfl, ?_⟩) (by assumption) ?_
                  rotate_left
                  · intro w hSw; (try dsimp only at hSw); go_simp; try with_reducible rfl
                  try simp only [Act.put, List.setIfInBounds_toArray, List.set_cons_zero, List.set_cons_succ, List.getElem_toArray, List.getElem_cons_succ, List.getElem_cons_zero]
                  refine wpAnyH_ready (rs := [2]) (by kernel_rfl) (by simp) ?_
                  refine AllReadyH.cons rfl (fun K hK => ?_) AllReadyH.nil
                  go_simp
                  go_wp2_with (go_at_call 12; refine (LC.out _ _ _ _ YI.out).mono ?_; rintro e w15 ⟨s15, k15, rfl, q15, b15⟩)
                  have BJ := Lib.hid (BI.out.below b15)
                  have YJ := Lib.hid (YI.out.below b15)
                  have CJ := Lib.hid (CI.out.below b15)
                  have QJ := Lib.hid q15
                  clear q15 b15
                  refine hK.out _ _ ?_ (fun hHeld => ?_)
                  · exact ⟨YJ.out.two, (CE.out _ CJ.out).1, (CE.out _ CJ.out).2 yi rfl⟩
                  clear hK K
                  refine wpAnyH_ready (rs := [7]) (by kernel_rfl) (by simp) ?_
                  refine AllReadyH.cons rfl (fun K hK => ?_) AllReadyH.nil
                  go_simp
                  go_wp2_with (go_at_call 16; refine (LVz.out _ _ _ _ QJ.out).mono ?_; rintro e w16 ⟨rfl, b16⟩)
                  have BK := Lib.hid (BJ.out.below b16)
                  have YK := Lib.hid (YJ.out.below b16)
                  have CK := Lib.hid (CJ.out.below b16)
                  clear b16
                  refine hK.out _ _ ?_ (fun hHeld => ?_)
                  · exact ⟨YK.out.two, (CE.out _ CK.out).1, (CE.out _ CK.out).2 yi rfl⟩
                  clear hK K
                  refine wpAnyH_take (i := 8) (oi := _) (v := ?_) rfl (by kernel_rfl) (by kernel_rfl) (by kernel_rfl) (fun _ _ _ h => h) (Or.inl ⟨by rfl, ?_⟩) (by assumption) ?_
                  rotate_left
                  · intro w hSw; (try dsimp only at hSw); go_simp; try with_reducible rfl
                  try simp only [Act.put, List.setIfInBounds_toArray, List.set_cons_zero, List.set_cons_succ, List.getElem_toArray, List.getElem_cons_succ, List.getElem_cons_zero]
                  refine wpAnyH_done (by kernel_rfl) ?_ _
                  have PF := Lib.hid (FIN.out _ BK.out YK.out CK.out)
                  clear FIN CE BI YI CI BJ YJ CJ QJ BK YK CK LVz
                  go_wp2
                  try rw [hw1]
                  try rw [hw2]
                  exact ⟨PF.out, MES.out⟩
                · rw [if_pos v2] at hop
                  have hg2 : gd = true ↔ GdL T (l.take (j + 1)) := ⟨fun h => hgd.2 (.inl (HJ.out.2.2.2.1 h)), fun h => by
                    rcases hgd.1 h with g | g
                    · exact HJ.out.2.2.2.2 g
                    · omega⟩
                  have FIN := Lib.hid (fun wr' => NEXT.out wr' (yo + 1) gd (by rw [hop]; have := HJ.out.2.2.1; omega) hg2)
                  have LVz : Hid (∀ (B : Nat) (W : World) s' k', W.ownsRow B 2 1 (.slice s' tn k') tn zv → Calls Tryd.prog 16 #[.slice s' tn k', .int .i64 z] W fun e w' => e = .returned (.int .i64 0) ∧ Below W.heap.size W w') := fun B W s' k' o => by rw [← v1]; exact LV.out B W s' k' z o
                  clear NEXT hop hgd HJ v1 v2
                  go_wp2_with fail
                  refine wp_region_held_drew (S := fun W => (b7 < W.heap.size ∧ W.cell? ⟨b7, 0, none⟩ = some (.slice s7 tn k7)) ∧ lc < W.heap.size ∧ W.cell? ⟨lc, lo + yi.toNat, none⟩ = some (.int .i64 z)) (by kernel_rfl) ?_ (fun hHeld => ?_)
                  · exact ⟨YI.out.two, (CE.out _ CI.out).1, (CE.out _ CI.out).2 yi rfl⟩
                  generalize wr.drew = wi at *
                  refine wpAnyH_take (i := 0) (oi := _) (v := ?_) rfl (by kernel_rfl) (by kernel_rfl) (by kernel_rfl) (fun _ _ _ h => h) (Or.inl ⟨by rfl, ?_⟩) (by assumption) ?_
                  rotate_left
                  · intro w hSw; (try dsimp only at hSw); go_simp; try with_reducible rfl
                  try simp only [Act.put, List.setIfInBounds_toArray, List.set_cons_zero, List.set_cons_succ, List.getElem_toArray, List.getElem_cons_zero]
                  refine wpAnyH_take (i := 1) (oi := _) (v := ?_) rfl (by kernel_rfl) (by kernel_rfl) (by kernel_rfl) (fun _ _ _ h => h) (Or.inl ⟨by rfl, ?_⟩) (by assumption) ?_
                  rotate_left
                  · intro w hSw; (try dsimp only at hSw); go_simp; try with_reducible rfl
                  try simp only [Act.put, List.setIfInBounds_toArray, List.set_cons_zero, List.set_cons_succ, List.getElem_toArray, List.getElem_cons_succ, List.getElem_cons_zero]
                  refine wpAnyH_take (i := 3) (oi := _) (v := ?_) rfl (by kernel_rfl) (by kernel_rfl) (by kernel_rfl) (fun _ _ _ h => h) (Or.inl ⟨by rfl, ?_⟩) (by assumption) ?_
                  rotate_left
                  · intro w hSw; (try dsimp only at hSw); go_simp; try with_reducible rfl
                  try simp only [Act.put, List.setIfInBounds_toArray, List.set_cons_zero, List.set_cons_succ, List.getElem_toArray, List.getElem_cons_succ, List.getElem_cons_zero]
                  refine wpAnyH_take (i := 4) (oi := _) (v := ?_) rfl (by kernel_rfl) (by kernel_rfl) (by kernel_rfl) (fun _ _ _ h => h) (Or.inl ⟨by rfl, ?_⟩) (by assumption) ?_
                  rotate_left
                  · intro w hSw; (try dsimp only at hSw); go_simp; try with_reducible rfl
                  try simp only [Act.put, List.setIfInBounds_toArray, List.set_cons_zero, List.set_cons_succ, List.getElem_toArray, List.getElem_cons_succ, List.getElem_cons_zero]
                  refine wpAnyH_take (i := 5) (oi := _) (v := ?_) rfl (by kernel_rfl) (by kernel_rfl) (by kernel_rfl) (fun _ _ _ h => h) (Or.inl ⟨by rfl, ?_⟩) (by assumption) ?_
                  rotate_left
                  · intro w hSw; (try dsimp only at hSw); go_simp; try with_reducible rfl
                  try simp only [Act.put, List.setIfInBounds_toArray, List.set_cons_zero, List.set_cons_succ, List.getElem_toArray, List.getElem_cons_succ, List.getElem_cons_zero]
                  refine wpAnyH_take (i := 6) (oi := _) (v := ?_) rfl (by kernel_rfl) (by kernel_rfl) (by kernel_rfl) (fun _ _ _ h => h) (Or.inl ⟨by rfl, ?_⟩) (by assumption) ?_
                  rotate_left
                  · intro w hSw; (try dsimp only at hSw); go_simp; try with_reducible rfl
                  try simp only [Act.put, List.setIfInBounds_toArray, List.set_cons_zero, List.set_cons_succ, List.getElem_toArray, List.getElem_cons_succ, List.getElem_cons_zero]
                  refine wpAnyH_ready (rs := [2]) (by kernel_rfl) (by simp) ?_
                  refine AllReadyH.cons rfl (fun K hK => ?_) AllReadyH.nil
                  go_simp
                  go_wp2_with (go_at_call 12; refine (LC.out _ _ _ _ YI.out).mono ?_; rintro e w15 ⟨s15, k15, rfl, q15, b15⟩)
                  have BJ := Lib.hid (BI.out.below b15)
                  have YJ := Lib.hid (YI.out.below b15)
                  have CJ := Lib.hid (CI.out.below b15)
                  have QJ := Lib.hid q15
                  clear q15 b15
                  refine hK.out _ _ ?_ (fun hHeld => ?_)
                  · exact ⟨YJ.out.two, (CE.out _ CJ.out).1, (CE.out _ CJ.out).2 yi rfl⟩
                  clear hK K
                  refine wpAnyH_ready (rs := [7]) (by kernel_rfl) (by simp) ?_
                  refine AllReadyH.cons rfl (fun K hK => ?_) AllReadyH.nil
                  go_simp
                  go_wp2_with (go_at_call 16; refine (LVz.out _ _ _ _ QJ.out).mono ?_; rintro e w16 ⟨rfl, b16⟩)
                  have BK := Lib.hid (BJ.out.below b16)
                  have YK := Lib.hid (YJ.out.below b16)
                  have CK := Lib.hid (CJ.out.below b16)
                  clear b16
                  refine hK.out _ _ ?_ (fun hHeld => ?_)
                  · exact ⟨YK.out.two, (CE.out _ CK.out).1, (CE.out _ CK.out).2 yi rfl⟩
                  clear hK K
                  refine wpAnyH_take (i := 8) (oi := _) (v := ?_) rfl (by kernel_rfl) (by kernel_rfl) (by kernel_rfl) (fun _ _ _ h => h) (Or.inl ⟨by rfl, ?_⟩) (by assumption) ?_
                  rotate_left
                  · intro w hSw; (try dsimp only at hSw); go_simp; try with_reducible rfl
                  try simp only [Act.put, List.setIfInBounds_toArray, List.set_cons_zero, List.set_cons_succ, List.getElem_toArray, List.getElem_cons_succ, List.getElem_cons_zero]
                  refine wpAnyH_done (by kernel_rfl) ?_ _
                  have PF := Lib.hid (FIN.out _ BK.out YK.out CK.out)
                  clear FIN CE BI YI CI BJ YJ CJ QJ BK YK CK LVz
                  go_wp2
                  try rw [hw1]
                  try rw [hw2]
                  exact ⟨PF.out, MES.out⟩
              · have hjl : ¬ yi < (ln : Int) := by have := HJ.out.1; omega
                have htk : l.take j = l := List.take_of_length_le (by have := HLN.out; omega)
                have hyo : yo = (opC T l : Int) := by have := HJ.out.2.2.1; rwa [htk] at this
                have hgg : gd = true ↔ GdL T l := by have := HJ.out.2.2.2; rwa [htk] at this
                have HGG := Lib.hid hgg
                have HYO := Lib.hid hyo
                have REL : Hid (∃ (k : Nat) (y2 : Int), Value.int .i64 (y + 1) = .int .i64 y2 ∧ Hid (y2 = (k : Int) ∧ k ≤ n + m) ∧ Hid (UW w b3 vars vs n vk cs s ms ts T0 wr) ∧ Hid (UN b7 s7 tn k7 conf 0 zv wr)) := ⟨k + 1, y + 1, rfl, ⟨by have := HY.out; omega, by have := HY.out; omega⟩, B15, Y15⟩
                have MES2 : Hid ((((n : Int) + (m : Int)) - (y + 1)).toNat < (((n : Int) + (m : Int)) - y).toNat) := by show _ < _; omega
                have hwy : wrap64 (y + 1) = y + 1 := wrap_in _ ⟨by omega, by omega⟩
                obtain ⟨yl, y0, y1, y2⟩ := Y15.out.facts
                clear HJ hyo hgg htk hj B15
                by_cases e1 : conf = y
                · obtain ⟨a1, a2⟩ := HFAL.out e1
                  have hgf : gd = false := by
                    cases gd with
                    | true => exact absurd (HGG.out.1 rfl) a1
                    | false => rfl
                  have hy0' : yo = 0 := by rw [HYO.out, a2]; rfl
                  have e2 : (conf == y) = true := by rw [e1]; simp
                  have e3 : (conf == -1) = false := beq_eq_false_iff_ne.2 (by omega)
                  subst hgf
                  subst hy0'
                  clear HYO HGG HFAL HFIN HLIT a1 a2 e1 HK HY
                  go_wp2
                  try rw [hwy]
                  exact ⟨REL.out, MES2.out⟩
                · have e2 : (conf == y) = false := beq_eq_false_iff_ne.2 e1
                  by_cases e4 : conf = -1
                  · have e3 : (conf == -1) = true := by rw [e4]; rfl
                    have hfi := HFIN.out e4
                    cases gd with
                    | true =>
                      clear HYO HGG HFAL HFIN HLIT e1 HK HY e4 hfi
                      go_wp2
                      try rw [hwy]
                      exact ⟨REL.out, MES2.out⟩
                    | false =>
                      have h2 : ¬ yo < 2 := by
                        rcases hfi with h | h
                        · have := HGG.out.2 h; cases this
                        · have := HYO.out; omega
                      clear HYO HGG HFAL HFIN HLIT e1 HK HY e4 hfi
                      go_wp2
                      try rw [hwy]
                      exact ⟨REL.out, MES2.out⟩
                  · have e3 : (conf == -1) = false := beq_eq_false_iff_ne.2 e4
                    clear HYO HGG HFAL HFIN HLIT e1 HK HY e4
                    go_wp2
                    try rw [hwy]
                    exact ⟨REL.out, MES2.out⟩
          · have hlt : ¬ y < (n : Int) + (m : Int) := by have := HK.out.1; omega
            go_wp2
            go_ret
            exact ⟨rfl, B13.out.bel⟩
      · have hc' : (cd == 0) = false := beq_eq_false_iff_ne.2 hc
        go_wp2
        go_ret
        exact ⟨rfl, BS.out.bel⟩
  · have BA := Lib.hid (BD.out.below (bA0 wd (.cells #[.slice none 0 0, .int .i64 0, .int .i64 0] 30)))
    have GA := Lib.hid (GD.out.below (bA0 wd (.cells #[.slice none 0 0, .int .i64 0, .int .i64 0] 30)))
    have XA : Hid (BoxU (wd.alloc (.cells #[.slice none 0 0, .int .i64 0, .int .i64 0] 30)) wd.heap.size) := new_at _ _
    have NA : Hid (b6 ≠ wd.heap.size) := fun e => by have := GD.out.lt; omega
    have FA : Hid (Fr wd wd.heap.size (wd.alloc (.cells #[.slice none 0 0, .int .i64 0, .int .i64 0] 30))) := ⟨rfl, bA0 _ _⟩
    have BU := BD
    go_simp
    refine hK.out _ _ ?_ (fun hHeld => ?_)
    · exact BA.out.cells
    clear hK K
    generalize wd.alloc (.cells #[.slice none 0 0, .int .i64 0, .int .i64 0] 30) = wa at *
    generalize wd.heap.size = b7 at *
    refine wpAnyH_ready (rs := [3]) (by kernel_rfl) (by simp) ?_
    refine AllReadyH.cons rfl (fun K hK => ?_) AllReadyH.nil
    go_simp
    go_wp2_with (go_at_call 12; refine (LC0.out _ BA.out).mono ?_; rintro e w8 ⟨s8, k8, rfl, q8, b8⟩)
    have B8 := Lib.hid (BA.out.below b8)
    have G8 := Lib.hid (GA.out.below b8)
    have Q8 := Lib.hid q8
    have XB := Lib.hid (XA.out.below b8)
    clear XA
    have XA := XB
    clear XB
    have FB := Lib.hid (FA.out.below b8)
    clear FA
    have FA := FB
    clear FB
    clear q8 b8
    refine hK.out _ _ ?_ (fun hHeld => ?_)
    · exact B8.out.cells
    clear hK K
    refine wpAnyH_ready (rs := [4]) (by kernel_rfl) (by simp) ?_
    refine AllReadyH.cons rfl (fun K hK => ?_) AllReadyH.nil
    go_simp
    go_wp2_with (go_at_call 11; refine (IU.out _ _ _ _ B8.out Q8.out).mono ?_; rintro e w7 ⟨s7, k7, rfl, q7, b7'⟩)
    have B7 := Lib.hid (B8.out.below b7')
    have G7 := Lib.hid (G8.out.below b7')
    have XB := Lib.hid (XA.out.below b7')
    clear XA
    have XA := XB
    clear XB
    have FB := Lib.hid (FA.out.below b7')
    clear FA
    have FA := FB
    clear FB
    have T7 : Hid (w7.ownsRow 0 2 1 (.slice s7 tn k7) tn zv) := own_mono q7 (Nat.zero_le _)
    clear q7 b7'
    refine hK.out _ _ ?_ (fun hHeld => ?_)
    · exact B7.out.cells
    clear hK K
    refine wpAnyH_ready (rs := [6]) (by kernel_rfl) (by simp) ?_
    refine AllReadyH.cons rfl (fun K hK => ?_) AllReadyH.nil
    have OS : Only b7 w7 (((w7.setCell ⟨b7, 0, none⟩ (.slice s7 tn k7)).setCell ⟨b7, 1, none⟩ (.int .i64 conf)).setCell ⟨b7, 2, none⟩ (.int .i64 cd)) := (((Only.refl b7 w7).setCell 0 _).setCell 1 _).setCell 2 _
    have BS := Lib.hid (BU.out.fr FA.out OS)
    have GS : Hid (BoxA (((w7.setCell ⟨b7, 0, none⟩ (.slice s7 tn k7)).setCell ⟨b7, 1, none⟩ (.int .i64 conf)).setCell ⟨b7, 2, none⟩ (.int .i64 cd)) b6 s6 tn k6 conf cd) := (OS.block b6 G7.out.lt NA.out).trans G7.out
    have YS : Hid (UN b7 s7 tn k7 conf cd zv (((w7.setCell ⟨b7, 0, none⟩ (.slice s7 tn k7)).setCell ⟨b7, 1, none⟩ (.int .i64 conf)).setCell ⟨b7, 2, none⟩ (.int .i64 cd))) := ⟨⟨0, own_only T7.out OS XA.out (by decide)⟩, heap_setCell_same _ b7 2 _ 30 (.int .i64 cd) (heap_setCell_same _ b7 1 _ 30 (.int .i64 conf) (heap_setCell_same w7 b7 0 _ 30 (.slice s7 tn k7) XA.out))⟩
    obtain ⟨zl, z0, z1, z2, f0, f1, f2⟩ := XA.out.facts
    clear OS
    go_simp
    refine hK.out _ _ ?_ (fun hHeld => ?_)
    · exact BS.out.cells
    clear hK K
    clear zl z0 z1 z2 f0 f1 f2 XA NA T7 FA BU
    generalize (((w7.setCell ⟨b7, 0, none⟩ (.slice s7 tn k7)).setCell ⟨b7, 1, none⟩ (.int .i64 conf)).setCell ⟨b7, 2, none⟩ (.int .i64 cd)) = w9 at *
    refine wpAnyH_done (by kernel_rfl) ?_ _
    have BE := Lib.hid BS.out.drew
    have YE := Lib.hid YS.out.drew
    obtain ⟨yl, y0, y1, y2⟩ := YS.out.facts
    obtain ⟨ga, gb, gc, gd⟩ := box3 GS.out
    by_cases hc : cd = 0
    · subst hc
      have HR := Lib.hid (RO.out rfl)
      have hlen := HR.out.1
      have hcap := YS.out.cap
      have hlen' : ¬ (tn : Int) < (tn0 : Int) := by omega
      have hc1 : (tn0 : Int) ≤ (k7 : Int) := by omega
      have SM := Lib.hid (SM0.out rfl)
      have TR := Lib.hid (TR0.out rfl)
      go_wp2_with fail
      have hdec : ((tn : Int) < (tn0 : Int)) = False := eq_false (by omega)
      refine wp_region_held_drew (S := fun W => (b3 < W.heap.size ∧ W.cell? ⟨b3, 0, none⟩ = some (.int .i64 vars) ∧ W.cell? ⟨b3, 1, none⟩ = some (.slice vs n vk)) ∧ b7 < W.heap.size ∧ W.cell? ⟨b7, 0, none⟩ = some (.slice s7 tn k7)) (by kernel_rfl) ?_ (fun hHeld => ?_)
      · exact ⟨BE.out.cells, YE.out.two⟩
      generalize w9.drew = we at *
      refine wpAnyH_take (i := 0) (oi := _) (v := ?_) rfl (by kernel_rfl) (by kernel_rfl) (by kernel_rfl) (fun _ _ _ h => h) (Or.inl ⟨by rfl, ?_⟩) (by assumption) ?_
      rotate_left
      · intro w hSw; (try dsimp only at hSw); go_simp; try with_reducible rfl
      try simp only [Act.put, List.setIfInBounds_toArray, List.set_cons_zero, List.set_cons_succ, List.getElem_toArray, List.getElem_cons_zero]
      refine wpAnyH_take (i := 1) (oi := _) (v := ?_) rfl (by kernel_rfl) (by kernel_rfl) (by kernel_rfl) (fun _ _ _ h => h) (Or.inl ⟨by rfl, ?_⟩) (by assumption) ?_
      rotate_left
      · intro w hSw; (try dsimp only at hSw); go_simp; try with_reducible rfl
      try simp only [Act.put, List.setIfInBounds_toArray, List.set_cons_zero, List.set_cons_succ, List.getElem_toArray, List.getElem_cons_succ, List.getElem_cons_zero]
      refine wpAnyH_take (i := 2) (oi := _) (v := ?_) rfl (by kernel_rfl) (by kernel_rfl) (by kernel_rfl) (fun _ _ _ h => h) (Or.inl ⟨by rfl, ?_⟩) (by assumption) ?_
      rotate_left
      · intro w hSw; (try dsimp only at hSw); go_simp; try with_reducible rfl
      try simp only [Act.put, List.setIfInBounds_toArray, List.set_cons_zero, List.set_cons_succ, List.getElem_toArray, List.getElem_cons_succ, List.getElem_cons_zero]
      refine wpAnyH_take (i := 3) (oi := _) (v := ?_) rfl (by kernel_rfl) (by kernel_rfl) (by kernel_rfl) (fun _ _ _ h => h) (Or.inl ⟨by rfl, ?_⟩) (by assumption) ?_
      rotate_left
      · intro w hSw; (try dsimp only at hSw); go_simp; try with_reducible rfl
      try simp only [Act.put, List.setIfInBounds_toArray, List.set_cons_zero, List.set_cons_succ, List.getElem_toArray, List.getElem_cons_succ, List.getElem_cons_zero]
      refine wpAnyH_take (i := 4) (oi := _) (v := ?_) rfl (by kernel_rfl) (by kernel_rfl) (by kernel_rfl) (fun _ _ _ h => h) (Or.inl ⟨by rfl, ?_⟩) (by assumption) ?_
      rotate_left
      · intro w hSw; (try dsimp only at hSw); go_simp; try with_reducible rfl
      try simp only [Act.put, List.setIfInBounds_toArray, List.set_cons_zero, List.set_cons_succ, List.getElem_toArray, List.getElem_cons_succ, List.getElem_cons_zero]
      refine wpAnyH_take (i := 5) (oi := _) (v := ?_) rfl (by kernel_rfl) (by kernel_rfl) (by kernel_rfl) (fun _ _ _ h => h) (Or.inl ⟨by rfl, ?_⟩) (by assumption) ?_
      rotate_left
      · intro w hSw; (try dsimp only at hSw); go_simp; try with_reducible rfl
      try simp only [Act.put, List.setIfInBounds_toArray, List.set_cons_zero, List.set_cons_succ, List.getElem_toArray, List.getElem_cons_succ, List.getElem_cons_zero]
      refine wpAnyH_take (i := 6) (oi := _) (v := ?_) rfl (by kernel_rfl) (by kernel_rfl) (by kernel_rfl) (fun _ _ _ h => h) (Or.inl ⟨by rfl, ?_⟩) (by assumption) ?_
      rotate_left
      · intro w hSw; (try dsimp only at hSw); go_simp; try with_reducible rfl
      try simp only [Act.put, List.setIfInBounds_toArray, List.set_cons_zero, List.set_cons_succ, List.getElem_toArray, List.getElem_cons_succ, List.getElem_cons_zero]
      refine wpAnyH_take (i := 7) (oi := _) (v := ?_) rfl (by kernel_rfl) (by kernel_rfl) (by kernel_rfl) (fun _ _ _ h => h) (Or.inl ⟨by rfl, ?_⟩) (by assumption) ?_
      rotate_left
      · intro w hSw; (try dsimp only at hSw); go_simp; try with_reducible rfl
      try simp only [Act.put, List.setIfInBounds_toArray, List.set_cons_zero, List.set_cons_succ, List.getElem_toArray, List.getElem_cons_succ, List.getElem_cons_zero]
      refine wpAnyH_take (i := 8) (oi := _) (v := ?_) rfl (by kernel_rfl) (by kernel_rfl) (by kernel_rfl) (fun _ _ _ h => h) (Or.inl ⟨by rfl, ?_⟩) (by assumption) ?_
      rotate_left
      · intro w hSw; (try dsimp only at hSw); go_simp; try with_reducible rfl
      try simp only [Act.put, List.setIfInBounds_toArray, List.set_cons_zero, List.set_cons_succ, List.getElem_toArray, List.getElem_cons_succ, List.getElem_cons_zero]
      refine wpAnyH_take (i := 9) (oi := _) (v := ?_) rfl (by kernel_rfl) (by kernel_rfl) (by kernel_rfl) (fun _ _ _ h => h) (Or.inl ⟨by rfl, ?_⟩) (by assumption) ?_
      rotate_left
      · intro w hSw; (try dsimp only at hSw); go_simp; try with_reducible rfl
      try simp only [Act.put, List.setIfInBounds_toArray, List.set_cons_zero, List.set_cons_succ, List.getElem_toArray, List.getElem_cons_succ, List.getElem_cons_zero]
      refine wpAnyH_take (i := 10) (oi := _) (v := ?_) rfl (by kernel_rfl) (by kernel_rfl) (by kernel_rfl) (fun _ _ _ h => h) (Or.inl ⟨by rfl, ?_⟩) (by assumption) ?_
      rotate_left
      · intro w hSw; (try dsimp only at hSw); go_simp; try with_reducible rfl
      try simp only [Act.put, List.setIfInBounds_toArray, List.set_cons_zero, List.set_cons_succ, List.getElem_toArray, List.getElem_cons_succ, List.getElem_cons_zero]
      refine wpAnyH_take (i := 11) (oi := _) (v := ?_) rfl (by kernel_rfl) (by kernel_rfl) (by kernel_rfl) (fun _ _ _ h => h) (Or.inl ⟨by rfl, ?_⟩) (by assumption) ?_
      rotate_left
      · intro w hSw; (try dsimp only at hSw); go_simp; try with_reducible rfl
      try simp only [Act.put, List.setIfInBounds_toArray, List.set_cons_zero, List.set_cons_succ, List.getElem_toArray, List.getElem_cons_succ, List.getElem_cons_zero]
      refine wpAnyH_take (i := 12) (oi := _) (v := ?_) rfl (by kernel_rfl) (by kernel_rfl) (by kernel_rfl) (fun _ _ _ h => h) (Or.inl ⟨by rfl, ?_⟩) (by assumption) ?_
      rotate_left
      · intro w hSw; (try dsimp only at hSw); go_simp; try with_reducible rfl
      try simp only [Act.put, List.setIfInBounds_toArray, List.set_cons_zero, List.set_cons_succ, List.getElem_toArray, List.getElem_cons_succ, List.getElem_cons_zero]
      refine wpAnyH_ready (rs := [13]) (by kernel_rfl) (by simp) ?_
      refine AllReadyH.cons rfl (fun K hK => ?_) AllReadyH.nil
      go_simp
      go_wp2_with (go_at_call 13; refine (SM.out _ _ _ _ BE.out YE.out).mono ?_; rintro e w10 ⟨rfl, b10⟩)
      have BF := Lib.hid (BE.out.below b10)
      have YF := Lib.hid (YE.out.below b10)
      clear b10
      refine hK.out _ _ ?_ (fun hHeld => ?_)
      · exact ⟨BF.out.cells, YF.out.two⟩
      clear hK K
      refine wpAnyH_take (i := 14) (oi := _) (v := ?_) rfl (by kernel_rfl) (by kernel_rfl) (by kernel_rfl) (fun _ _ _ h => h) (Or.inl ⟨by rfl, ?_⟩) (by assumption) ?_
      rotate_left
      · intro w hSw; (try dsimp only at hSw); go_simp; try with_reducible rfl
      try simp only [Act.put, List.setIfInBounds_toArray, List.set_cons_zero, List.set_cons_succ, List.getElem_toArray, List.getElem_cons_succ, List.getElem_cons_zero]
      refine wpAnyH_take (i := 15) (oi := _) (v := ?_) rfl (by kernel_rfl) (by kernel_rfl) (by kernel_rfl) (fun _ _ _ h => h) (Or.inl ⟨by rfl, ?_⟩) (by assumption) ?_
      rotate_left
      · intro w hSw; (try dsimp only at hSw); go_simp; try with_reducible rfl
      try simp only [Act.put, List.setIfInBounds_toArray, List.set_cons_zero, List.set_cons_succ, List.getElem_toArray, List.getElem_cons_succ, List.getElem_cons_zero]
      refine wpAnyH_take (i := 16) (oi := _) (v := ?_) rfl (by kernel_rfl) (by kernel_rfl) (by kernel_rfl) (fun _ _ _ h => h) (Or.inl ⟨by rfl, ?_⟩) (by assumption) ?_
      rotate_left
      · intro w hSw; (try dsimp only at hSw); go_simp; try with_reducible rfl
      try simp only [Act.put, List.setIfInBounds_toArray, List.set_cons_zero, List.set_cons_succ, List.getElem_toArray, List.getElem_cons_succ, List.getElem_cons_zero]
      refine wpAnyH_take (i := 17) (oi := _) (v := ?_) rfl (by kernel_rfl) (by kernel_rfl) (by kernel_rfl) (fun _ _ _ h => h) (Or.inl ⟨by rfl, ?_⟩) (by assumption) ?_
      rotate_left
      · intro w hSw; (try dsimp only at hSw); go_simp; try with_reducible rfl
      try simp only [Act.put, List.setIfInBounds_toArray, List.set_cons_zero, List.set_cons_succ, List.getElem_toArray, List.getElem_cons_succ, List.getElem_cons_zero]
      refine wpAnyH_take (i := 18) (oi := _) (v := ?_) rfl (by kernel_rfl) (by kernel_rfl) (by kernel_rfl) (fun _ _ _ h => h) (Or.inl ⟨by rfl, ?_⟩) (by assumption) ?_
      rotate_left
      · intro w hSw; (try dsimp only at hSw); go_simp; try with_reducible rfl
      try simp only [Act.put, List.setIfInBounds_toArray, List.set_cons_zero, List.set_cons_succ, List.getElem_toArray, List.getElem_cons_succ, List.getElem_cons_zero]
      refine wpAnyH_take (i := 19) (oi := _) (v := ?_) rfl (by kernel_rfl) (by kernel_rfl) (by kernel_rfl) (fun _ _ _ h => h) (Or.inl ⟨by rfl, ?_⟩) (by assumption) ?_
      rotate_left
      · intro w hSw; (try dsimp only at hSw); go_simp; try with_reducible rfl
      try simp only [Act.put, List.setIfInBounds_toArray, List.set_cons_zero, List.set_cons_succ, List.getElem_toArray, List.getElem_cons_succ, List.getElem_cons_zero]
      refine wpAnyH_ready (rs := [20]) (by kernel_rfl) (by simp) ?_
      refine AllReadyH.cons rfl (fun K hK => ?_) AllReadyH.nil
      go_simp
      go_wp2_with (go_at_call 12; refine (LC.out _ _ _ _ YF.out).mono ?_; rintro e w11 ⟨s11, k11, rfl, q11, b11⟩)
      have BG := Lib.hid (BF.out.below b11)
      have YG := Lib.hid (YF.out.below b11)
      have QG := Lib.hid q11
      clear q11 b11
      refine hK.out _ _ ?_ (fun hHeld => ?_)
      · exact ⟨BG.out.cells, YG.out.two⟩
      clear hK K
      refine wpAnyH_ready (rs := [21]) (by kernel_rfl) (by simp) ?_
      refine AllReadyH.cons rfl (fun K hK => ?_) AllReadyH.nil
      go_simp
      go_wp2_with (go_at_call 14; refine (TR.out _ _ _ _ BG.out QG.out).mono ?_; rintro e w12 ⟨rfl, b12⟩)
      have BH := Lib.hid (BG.out.below b12)
      have YH := Lib.hid (YG.out.below b12)
      clear b12
      refine hK.out _ _ ?_ (fun hHeld => ?_)
      · exact ⟨BH.out.cells, YH.out.two⟩
      clear hK K
      refine wpAnyH_take (i := 22) (oi := _) (v := ?_) rfl (by kernel_rfl) (by kernel_rfl) (by kernel_rfl) (fun _ _ _ h => h) (Or.inl ⟨by rfl, ?_⟩) (by assumption) ?_
      rotate_left
      · intro w hSw; (try dsimp only at hSw); go_simp; try with_reducible rfl
      try simp only [Act.put, List.setIfInBounds_toArray, List.set_cons_zero, List.set_cons_succ, List.getElem_toArray, List.getElem_cons_succ, List.getElem_cons_zero]
      refine wpAnyH_take (i := 23) (oi := _) (v := ?_) rfl (by kernel_rfl) (by kernel_rfl) (by kernel_rfl) (fun _ _ _ h => h) (Or.inl ⟨by rfl, ?_⟩) (by assumption) ?_
      rotate_left
      · intro w hSw; (try dsimp only at hSw); go_simp; try with_reducible rfl
      try simp only [Act.put, List.setIfInBounds_toArray, List.set_cons_zero, List.set_cons_succ, List.getElem_toArray, List.getElem_cons_succ, List.getElem_cons_zero]
      refine wpAnyH_done (by kernel_rfl) ?_ _
      have LW1 : Hid (∀ (y : Int) (k : Nat) (hk : k < (cs ++ ms).length), y = (k : Int) → ∀ W, UW w b3 vars vs n vk cs s ms ts T0 W → Calls Tryd.prog 15 #[CV vars vs n vk, .slice s m sk, .int .i64 y] W (LcP (cs ++ ms)[k].2 W)) := fun y k hk e W h => by subst e; exact LW.out k hk W h
      have HL : Hid (∀ (k : Nat) (hk : k < (cs ++ ms).length), (∀ z ∈ (cs ++ ms)[k].2, litF T z = val T z) ∧ (conf = (k : Int) → ¬ GdL T (cs ++ ms)[k].2 ∧ opC T (cs ++ ms)[k].2 = 0) ∧ (conf = -1 → GdL T (cs ++ ms)[k].2 ∨ 2 ≤ opC T (cs ++ ms)[k].2)) := fun k hk => by
        have he : bareC cs ++ bareC ms = (cs ++ ms).map fun r => r.2 := by simp [bareC]
        have hk' : k < (bareC cs ++ bareC ms).length := by rw [he, List.length_map]; exact hk
        have e : (bareC cs ++ bareC ms)[k] = (cs ++ ms)[k].2 := by simp only [he, List.getElem_map]
        have hm : (cs ++ ms)[k].2 ∈ bareC cs ++ bareC ms := by rw [← e]; exact List.getElem_mem hk'
        have h1 := HR.out.2.fals k hk'
        rw [e] at h1
        exact ⟨HR.out.2.lits _ hm, h1, fun g => HR.out.2.fine g _ hm⟩
      have HN : Hid ((cs ++ ms).length = n + m) := by show _ = _; rw [List.length_append, HX.out.1, HX.out.2]
      have B12 := BH
      have Y12 := YH
      clear LW HR SM TR LC0 IU RO SM0 TR0 BE YE BF YF BG YG QG BH YH BS GS YS yl y0 y1 y2 ga gb gc gd
      obtain ⟨tl, t0, t1⟩ := B12.out.cells
      go_wp2
      clear tl t0 t1
      go_loopw [9] (fun a wr => ∃ (k : Nat) (y : Int), a = .int .i64 y ∧ Hid (y = (k : Int) ∧ k ≤ n + m) ∧ Hid (UW w b3 vars vs n vk cs s ms ts T0 wr) ∧ Hid (UN b7 s7 tn k7 conf 0 zv wr)) (fun a _ => (((n : Int) + (m : Int)) - intOf a).toNat)
      case atStart =>
        exact ⟨0, 0, rfl, ⟨rfl, Nat.zero_le _⟩, B12, Y12⟩
      case round =>
        obtain ⟨k, y, rfl, HK, B13, Y13⟩ := hrel
        clear B12 Y12
        obtain ⟨tl, t0, t1⟩ := B13.out.cells
        by_cases hk : k < n + m
        · have hlt : y < (n : Int) + (m : Int) := by have := HK.out.1; omega
          have hy0 : 0 ≤ y := by have := HK.out.1; omega
          have hk2 : k < (cs ++ ms).length := by rw [HN.out]; exact hk
          have L13 := Lib.hid (LW1.out y k hk2 HK.out.1 _ B13.out)
          have H13 := Lib.hid (HL.out k hk2)
          have HY : Hid (y = (k : Int)) := HK.out.1
          have hnm : (n : Int) + (m : Int) ≤ 100000 := by omega
          clear hk
          go_wp2_with fail
          refine L13.out.mono ?_
          rintro e w14 ⟨s1, k1, rfl, hi, hl1, b14⟩
          have B14 := Lib.hid (B13.out.below b14)
          have Y14 := Lib.hid (Y13.out.below b14)
          have I14 := Lib.hid hi
          unfold maxLen at hl1
          clear hi b14 L13 B13 Y13 tl t0 t1
          generalize (cs ++ ms)[k].2 = l at *
          obtain ⟨hlit, hfal, hfin⟩ := H13.out
          have HLIT := Lib.hid hlit
          have HFAL : Hid (conf = y → ¬ GdL T l ∧ opC T l = 0) := fun e => hfal (e.trans HY.out)
          have HFIN := Lib.hid hfin
          clear hlit hfal hfin H13
          generalize hln : l.length = ln at *
          have HLN := Lib.hid hln
          clear hln
          go_wp2
          go_loopw [11, 12, 13] (fun o g i wr => ∃ (j : Nat) (gd : Bool) (yo yi : Int), o = .int .i64 yo ∧ g = .bool gd ∧ i = .int .i64 yi ∧ Hid (yi = (j : Int) ∧ j ≤ ln ∧ yo = (opC T (l.take j) : Int) ∧ (gd = true ↔ GdL T (l.take j))) ∧ Hid (UW w b3 vars vs n vk cs s ms ts T0 wr) ∧ Hid (UN b7 s7 tn k7 conf 0 zv wr) ∧ Hid (Ints wr s1 l)) (fun _ _ i _ => ((ln : Int) - intOf i).toNat)
          case atStart =>
            exact ⟨0, false, 0, 0, rfl, rfl, rfl, ⟨rfl, Nat.zero_le _, by simp [opC], by simp [GdL]⟩, B14, Y14, I14⟩
          case round =>
            obtain ⟨j, gd, yo, yi, rfl, rfl, rfl, HJ, B15, Y15, I15⟩ := hrel
            clear B14 Y14 I14
            have hyi0 : 0 ≤ yi := by have := HJ.out.1; omega
            have hyo0 : 0 ≤ yo := by have := HJ.out.2.2.1; omega
            have hyo1 : yo ≤ yi := by
              have h1 := HJ.out.2.2.1
              have h2 := opC_le T (l.take j)
              have h3 : (l.take j).length ≤ j := by rw [List.length_take]; omega
              have h4 := HJ.out.1
              omega
            by_cases hj : j < ln
            · have hjl : yi < (ln : Int) := by have := HJ.out.1; omega
              obtain ⟨lc, lo, rfl, hlc, hcell0⟩ : ∃ lc lo, s1 = some ⟨lc, lo, none⟩ ∧ lc < wr.heap.size ∧ ∀ i, i < l.length → wr.cell? ⟨lc, lo + i, none⟩ = some (.int .i64 (l.getD i 0)) := by
                rcases I15.out with h | ⟨c, o, e, h1, h2⟩
                · have := HLN.out; rw [h] at this; simp at this; omega
                · exact ⟨c, o, e, h1, h2⟩
              have hjl2 : j < l.length := by rw [HLN.out]; exact hj
              have hcell := hcell0 j hjl2
              have hzm : l.getD j 0 ∈ l := by simp [List.getD_eq_getElem?_getD, hjl2]
              have hzv := HLIT.out _ hzm
              have hop := opC_step T l j hjl2
              have hgd := GdL_step T l j hjl2
              have NEXT : Hid (∀ (wr' : World) (yo' : Int) (gd' : Bool), yo' = (opC T (l.take (j + 1)) : Int) → (gd' = true ↔ GdL T (l.take (j + 1))) → UW w b3 vars vs n vk cs s ms ts T0 wr' → UN b7 s7 tn k7 conf 0 zv wr' → Ints wr' (some ⟨lc, lo, none⟩) l → ∃ (j : Nat) (gd : Bool) (yo yi2 : Int), Value.int .i64 yo' = .int .i64 yo ∧ Value.bool gd' = .bool gd ∧ Value.int .i64 (yi + 1) = .int .i64 yi2 ∧ Hid (yi2 = (j : Int) ∧ j ≤ ln ∧ yo = (opC T (l.take j) : Int) ∧ (gd = true ↔ GdL T (l.take j))) ∧ Hid (UW w b3 vars vs n vk cs s ms ts T0 wr') ∧ Hid (UN b7 s7 tn k7 conf 0 zv wr') ∧ Hid (Ints wr' (some ⟨lc, lo, none⟩) l)) := fun wr' yo' gd' h1 h2 h3 h4 h5 =>
                ⟨j + 1, gd', yo', yi + 1, rfl, rfl, rfl, ⟨by have := HJ.out.1; omega, by omega, h1, h2⟩, h3, h4, h5⟩
              have MES : Hid (((ln : Int) - (yi + 1)).toNat < ((ln : Int) - yi).toNat) := by show _ < _; omega
              have CI : Hid (Ints wr.drew (some ⟨lc, lo, none⟩) l) := I15.out.below (Below.refl _ _).drew
              have BI := Lib.hid B15.out.drew
              have YI := Lib.hid Y15.out.drew
              have CE : Hid (∀ W, Ints W (some ⟨lc, lo, none⟩) l → lc < W.heap.size ∧ ∀ (q : Int), q = yi → W.cell? ⟨lc, lo + q.toNat, none⟩ = some (.int .i64 (l.getD j 0))) := fun W h => by
                rcases h with h | ⟨c, o, e, h1, h2⟩
                · rw [h] at hjl2; simp at hjl2
                · cases e
                  exact ⟨h1, fun q hq => by rw [hq, show yi.toNat = j by have := HJ.out.1; omega]; exact h2 j hjl2⟩
              have hcw := (CE.out _ I15.out).2 yi rfl
              have hw1 : wrap64 (yi + 1) = yi + 1 := wrap_in _ ⟨by omega, by omega⟩
              have hw2 : wrap64 (yo + 1) = yo + 1 := wrap_in _ ⟨by omega, by omega⟩
              generalize hzz : l.getD j 0 = z at *
              have V3 : (litF T z = 1 ∧ val T z = 1) ∨ (litF T z = -1 ∧ val T z = -1) ∨ (litF T z = 0 ∧ val T z = 0) := by
                rcases val_cases T z with ⟨e, _⟩ | ⟨e, _⟩ | ⟨e, _⟩
                · exact .inl ⟨hzv.trans e, e⟩
                · exact .inr (.inl ⟨hzv.trans e, e⟩)
                · exact .inr (.inr ⟨hzv.trans e, e⟩)
              clear hzv hzm hzz hcell hcell0 hjl2 I15 B15 Y15
              rcases V3 with ⟨v1, v2⟩ | ⟨v1, v2⟩ | ⟨v1, v2⟩
              · rw [if_neg (by omega)] at hop
                have hg2 : GdL T (l.take (j + 1)) := hgd.2 (.inr v2)
                have FIN := Lib.hid (fun wr' => NEXT.out wr' yo true (by rw [hop]; exact HJ.out.2.2.1) ⟨fun _ => hg2, fun _ => rfl⟩)
                have LVz : Hid (∀ (B : Nat) (W : World) s' k', W.ownsRow B 2 1 (.slice s' tn k') tn zv → Calls Tryd.prog 16 #[.slice s' tn k', .int .i64 z] W fun e w' => e = .returned (.int .i64 1) ∧ Below W.heap.size W w') := fun B W s' k' o => by rw [← v1]; exact LV.out B W s' k' z o
                clear NEXT hop hgd HJ v1 v2
                go_wp2_with fail
                refine wp_region_held_drew (S := fun W => (b7 < W.heap.size ∧ W.cell? ⟨b7, 0, none⟩ = some (.slice s7 tn k7)) ∧ lc < W.heap.size ∧ W.cell? ⟨lc, lo + yi.toNat, none⟩ = some (.int .i64 z)) (by kernel_rfl) ?_ (fun hHeld => ?_)
                · exact ⟨YI.out.two, (CE.out _ CI.out).1, (CE.out _ CI.out).2 yi rfl⟩
                generalize wr.drew = wi at *
                refine wpAnyH_take (i := 0) (oi := _) (v := ?_) rfl (by kernel_rfl) (by kernel_rfl) (by kernel_rfl) (fun _ _ _ h => h) (Or.inl ⟨by rfl, ?_⟩) (by assumption) ?_
                rotate_left
                · intro w hSw; (try dsimp only at hSw); go_simp; try with_reducible rfl
                try simp only [Act.put, List.setIfInBounds_toArray, List.set_cons_zero, List.set_cons_succ, List.getElem_toArray, List.getElem_cons_zero]
                refine wpAnyH_take (i := 1) (oi := _) (v := ?_) rfl (by kernel_rfl) (by kernel_rfl) (by kernel_rfl) (fun _ _ _ h => h) (Or.inl ⟨by rfl, ?_⟩) (by assumption) ?_
                rotate_left
                · intro w hSw; (try dsimp only at hSw); go_simp; try with_reducible rfl
                try simp only [Act.put, List.setIfInBounds_toArray, List.set_cons_zero, List.set_cons_succ, List.getElem_toArray, List.getElem_cons_succ, List.getElem_cons_zero]
                refine wpAnyH_take (i := 3) (oi := _) (v := ?_) rfl (by kernel_rfl) (by kernel_rfl) (by kernel_rfl) (fun _ _ _ h => h) (Or.inl ⟨by rfl, ?_⟩) (by assumption) ?_
                rotate_left
                · intro w hSw; (try dsimp only at hSw); go_simp; try with_reducible rfl
                try simp only [Act.put, List.setIfInBounds_toArray, List.set_cons_zero, List.set_cons_succ, List.getElem_toArray, List.getElem_cons_succ, List.getElem_cons_zero]
                refine wpAnyH_take (i := 4) (oi := _) (v := ?_) rfl (by kernel_rfl) (by kernel_rfl) (by kernel_rfl) (fun _ _ _ h => h) (Or.inl ⟨by rfl, ?_⟩) (by assumption) ?_
                rotate_left
                · intro w hSw; (try dsimp only at hSw); go_simp; try with_reducible rfl
                try simp only [Act.put, List.setIfInBounds_toArray, List.set_cons_zero, List.set_cons_succ, List.getElem_toArray, List.getElem_cons_succ, List.getElem_cons_zero]
                refine wpAnyH_take (i := 5) (oi := _) (v := ?_) rfl (by kernel_rfl) (by kernel_rfl) (by kernel_rfl) (fun _ _ _ h => h) (Or.inl ⟨by rfl, ?_⟩) (by assumption) ?_
                rotate_left
                · intro w hSw; (try dsimp only at hSw); go_simp; try with_reducible rfl
                try simp only [Act.put, List.setIfInBounds_toArray, List.set_cons_zero, List.set_cons_succ, List.getElem_toArray, List.getElem_cons_succ, List.getElem_cons_zero]
                refine wpAnyH_take (i := 6) (oi := _) (v := ?_) rfl (by kernel_rfl) (by kernel_rfl) (by kernel_rfl) (fun _ _ _ h => h) (Or.inl ⟨by rfl, ?_⟩) (by assumption) ?_
                rotate_left
                · intro w hSw; (try dsimp only at hSw); go_simp; try with_reducible rfl
                try simp only [Act.put, List.setIfInBounds_toArray, List.set_cons_zero, List.set_cons_succ, List.getElem_toArray, List.getElem_cons_succ, List.getElem_cons_zero]
                refine wpAnyH_ready (rs := [2]) (by kernel_rfl) (by simp) ?_
                refine AllReadyH.cons rfl (fun K hK => ?_) AllReadyH.nil
                go_simp
                go_wp2_with (go_at_call 12; refine (LC.out _ _ _ _ YI.out).mono ?_; rintro e w15 ⟨s15, k15, rfl, q15, b15⟩)
                have BJ := Lib.hid (BI.out.below b15)
                have YJ := Lib.hid (YI.out.below b15)
                have CJ := Lib.hid (CI.out.below b15)
                have QJ := Lib.hid q15
                clear q15 b15
                refine hK.out _ _ ?_ (fun hHeld => ?_)
                · exact ⟨YJ.out.two, (CE.out _ CJ.out).1, (CE.out _ CJ.out).2 yi rfl⟩
                clear hK K
                refine wpAnyH_ready (rs := [7]) (by kernel_rfl) (by simp) ?_
                refine AllReadyH.cons rfl (fun K hK => ?_) AllReadyH.nil
                go_simp
                go_wp2_with (go_at_call 16; refine (LVz.out _ _ _ _ QJ.out).mono ?_; rintro e w16 ⟨rfl, b16⟩)
                have BK := Lib.hid (BJ.out.below b16)
                have YK := Lib.hid (YJ.out.below b16)
                have CK := Lib.hid (CJ.out.below b16)
                clear b16
                refine hK.out _ _ ?_ (fun hHeld => ?_)
                · exact ⟨YK.out.two, (CE.out _ CK.out).1, (CE.out _ CK.out).2 yi rfl⟩
                clear hK K
                refine wpAnyH_take (i := 8) (oi := _) (v := ?_) rfl (by kernel_rfl) (by kernel_rfl) (by kernel_rfl) (fun _ _ _ h => h) (Or.inl ⟨by rfl, ?_⟩) (by assumption) ?_
                rotate_left
                · intro w hSw; (try dsimp only at hSw); go_simp; try with_reducible rfl
                try simp only [Act.put, List.setIfInBounds_toArray, List.set_cons_zero, List.set_cons_succ, List.getElem_toArray, List.getElem_cons_succ, List.getElem_cons_zero]
                refine wpAnyH_done (by kernel_rfl) ?_ _
                have PF := Lib.hid (FIN.out _ BK.out YK.out CK.out)
                clear FIN CE BI YI CI BJ YJ CJ QJ BK YK CK LVz
                go_wp2
                try rw [hw1]
                try rw [hw2]
                exact ⟨PF.out, MES.out⟩
              · rw [if_neg (by omega)] at hop
                have hg2 : gd = true ↔ GdL T (l.take (j + 1)) := ⟨fun h => hgd.2 (.inl (HJ.out.2.2.2.1 h)), fun h => by
                  rcases hgd.1 h with g | g
                  · exact HJ.out.2.2.2.2 g
                  · omega⟩
                have FIN := Lib.hid (fun wr' => NEXT.out wr' yo gd (by rw [hop]; exact HJ.out.2.2.1) hg2)
                have LVz : Hid (∀ (B : Nat) (W : World) s' k', W.ownsRow B 2 1 (.slice s' tn k') tn zv → Calls Tryd.prog 16 #[.slice s' tn k', .int .i64 z] W fun e w' => e = .returned (.int .i64 (-1)) ∧ Below W.heap.size W w') := fun B W s' k' o => by rw [← v1]; exact LV.out B W s' k' z o
                clear NEXT hop hgd HJ v1 v2
                go_wp2_with fail
                refine wp_region_held_drew (S := fun W => (b7 < W.heap.size ∧ W.cell? ⟨b7, 0, none⟩ = some (.slice s7 tn k7)) ∧ lc < W.heap.size ∧ W.cell? ⟨lc, lo + yi.toNat, none⟩ = some (.int .i64 z)) (by kernel_rfl) ?_ (fun hHeld => ?_)
                · exact ⟨YI.out.two, (CE.out _ CI.out).1, (CE.out _ CI.out).2 yi rfl⟩
                generalize wr.drew = wi at *
                refine wpAnyH_take (i := 0) (oi := _) (v := ?_) rfl (by kernel_rfl) (by kernel_rfl) (by kernel_rfl) (fun _ _ _ h => h) (Or.inl ⟨by rfl, ?_⟩) (by assumption) ?_
                rotate_left
                · intro w hSw; (try dsimp only at hSw); go_simp; try with_reducible rfl
                try simp only [Act.put, List.setIfInBounds_toArray, List.set_cons_zero, List.set_cons_succ, List.getElem_toArray, List.getElem_cons_zero]
                refine wpAnyH_take (i := 1) (oi := _) (v := ?_) rfl (by kernel_rfl) (by kernel_rfl) (by kernel_rfl) (fun _ _ _ h => h) (Or.inl ⟨by rfl, ?_⟩) (by assumption) ?_
                rotate_left
                · intro w hSw; (try dsimp only at hSw); go_simp; try with_reducible rfl
                try simp only [Act.put, List.setIfInBounds_toArray, List.set_cons_zero, List.set_cons_succ, List.getElem_toArray, List.getElem_cons_succ, List.getElem_cons_zero]
                refine wpAnyH_take (i := 3) (oi := _) (v := ?_) rfl (by kernel_rfl) (by kernel_rfl) (by kernel_rfl) (fun _ _ _ h => h) (Or.inl ⟨by rfl, ?_⟩) (by assumption) ?_
                rotate_left
                · intro w hSw; (try dsimp only at hSw); go_simp; try with_reducible rfl
                try simp only [Act.put, List.setIfInBounds_toArray, List.set_cons_zero, List.set_cons_succ, List.getElem_toArray, List.getElem_cons_succ, List.getElem_cons_zero]
                refine wpAnyH_take (i := 4) (oi := _) (v := ?_) rfl (by kernel_rfl) (by kernel_rfl) (by kernel_rfl) (fun _ _ _ h => h) (Or.inl ⟨by rfl, ?_⟩) (by assumption) ?_
                rotate_left
                · intro w hSw; (try dsimp only at hSw); go_simp; try with_reducible rfl
                try simp only [Act.put, List.setIfInBounds_toArray, List.set_cons_zero, List.set_cons_succ, List.getElem_toArray, List.getElem_cons_succ, List.getElem_cons_zero]
                refine wpAnyH_take (i := 5) (oi := _) (v := ?_) rfl (by kernel_rfl) (by kernel_rfl) (by kernel_rfl) (fun _ _ _ h => h) (Or.inl ⟨by rfl, ?_⟩) (by assumption) ?_
                rotate_left
                · intro w hSw; (try dsimp only at hSw); go_simp; try with_reducible rfl
                try simp only [Act.put, List.setIfInBounds_toArray, List.set_cons_zero, List.set_cons_succ, List.getElem_toArray, List.getElem_cons_succ, List.getElem_cons_zero]
                refine wpAnyH_take (i := 6) (oi := _) (v := ?_) rfl (by kernel_rfl) (by kernel_rfl) (by kernel_rfl) (fun _ _ _ h => h) (Or.inl ⟨by rfl, ?_⟩) (by assumption) ?_
                rotate_left
                · intro w hSw; (try dsimp only at hSw); go_simp; try with_reducible rfl
                try simp only [Act.put, List.setIfInBounds_toArray, List.set_cons_zero, List.set_cons_succ, List.getElem_toArray, List.getElem_cons_succ, List.getElem_cons_zero]
                refine wpAnyH_ready (rs := [2]) (by kernel_rfl) (by simp) ?_
                refine AllReadyH.cons rfl (fun K hK => ?_) AllReadyH.nil
                go_simp
                go_wp2_with (go_at_call 12; refine (LC.out _ _ _ _ YI.out).mono ?_; rintro e w15 ⟨s15, k15, rfl, q15, b15⟩)
                have BJ := Lib.hid (BI.out.below b15)
                have YJ := Lib.hid (YI.out.below b15)
                have CJ := Lib.hid (CI.out.below b15)
                have QJ := Lib.hid q15
                clear q15 b15
                refine hK.out _ _ ?_ (fun hHeld => ?_)
                · exact ⟨YJ.out.two, (CE.out _ CJ.out).1, (CE.out _ CJ.out).2 yi rfl⟩
                clear hK K
                refine wpAnyH_ready (rs := [7]) (by kernel_rfl) (by simp) ?_
                refine AllReadyH.cons rfl (fun K hK => ?_) AllReadyH.nil
                go_simp
                go_wp2_with (go_at_call 16; refine (LVz.out _ _ _ _ QJ.out).mono ?_; rintro e w16 ⟨rfl, b16⟩)
                have BK := Lib.hid (BJ.out.below b16)
                have YK := Lib.hid (YJ.out.below b16)
                have CK := Lib.hid (CJ.out.below b16)
                clear b16
                refine hK.out _ _ ?_ (fun hHeld => ?_)
                · exact ⟨YK.out.two, (CE.out _ CK.out).1, (CE.out _ CK.out).2 yi rfl⟩
                clear hK K
                refine wpAnyH_take (i := 8) (oi := _) (v := ?_) rfl (by kernel_rfl) (by kernel_rfl) (by kernel_rfl) (fun _ _ _ h => h) (Or.inl ⟨by rfl, ?_⟩) (by assumption) ?_
                rotate_left
                · intro w hSw; (try dsimp only at hSw); go_simp; try with_reducible rfl
                try simp only [Act.put, List.setIfInBounds_toArray, List.set_cons_zero, List.set_cons_succ, List.getElem_toArray, List.getElem_cons_succ, List.getElem_cons_zero]
                refine wpAnyH_done (by kernel_rfl) ?_ _
                have PF := Lib.hid (FIN.out _ BK.out YK.out CK.out)
                clear FIN CE BI YI CI BJ YJ CJ QJ BK YK CK LVz
                go_wp2
                try rw [hw1]
                try rw [hw2]
                exact ⟨PF.out, MES.out⟩
              · rw [if_pos v2] at hop
                have hg2 : gd = true ↔ GdL T (l.take (j + 1)) := ⟨fun h => hgd.2 (.inl (HJ.out.2.2.2.1 h)), fun h => by
                  rcases hgd.1 h with g | g
                  · exact HJ.out.2.2.2.2 g
                  · omega⟩
                have FIN := Lib.hid (fun wr' => NEXT.out wr' (yo + 1) gd (by rw [hop]; have := HJ.out.2.2.1; omega) hg2)
                have LVz : Hid (∀ (B : Nat) (W : World) s' k', W.ownsRow B 2 1 (.slice s' tn k') tn zv → Calls Tryd.prog 16 #[.slice s' tn k', .int .i64 z] W fun e w' => e = .returned (.int .i64 0) ∧ Below W.heap.size W w') := fun B W s' k' o => by rw [← v1]; exact LV.out B W s' k' z o
                clear NEXT hop hgd HJ v1 v2
                go_wp2_with fail
                refine wp_region_held_drew (S := fun W => (b7 < W.heap.size ∧ W.cell? ⟨b7, 0, none⟩ = some (.slice s7 tn k7)) ∧ lc < W.heap.size ∧ W.cell? ⟨lc, lo + yi.toNat, none⟩ = some (.int .i64 z)) (by kernel_rfl) ?_ (fun hHeld => ?_)
                · exact ⟨YI.out.two, (CE.out _ CI.out).1, (CE.out _ CI.out).2 yi rfl⟩
                generalize wr.drew = wi at *
                refine wpAnyH_take (i := 0) (oi := _) (v := ?_) rfl (by kernel_rfl) (by kernel_rfl) (by kernel_rfl) (fun _ _ _ h => h) (Or.inl ⟨by rfl, ?_⟩) (by assumption) ?_
                rotate_left
                · intro w hSw; (try dsimp only at hSw); go_simp; try with_reducible rfl
                try simp only [Act.put, List.setIfInBounds_toArray, List.set_cons_zero, List.set_cons_succ, List.getElem_toArray, List.getElem_cons_zero]
                refine wpAnyH_take (i := 1) (oi := _) (v := ?_) rfl (by kernel_rfl) (by kernel_rfl) (by kernel_rfl) (fun _ _ _ h => h) (Or.inl ⟨by rfl, ?_⟩) (by assumption) ?_
                rotate_left
                · intro w hSw; (try dsimp only at hSw); go_simp; try with_reducible rfl
                try simp only [Act.put, List.setIfInBounds_toArray, List.set_cons_zero, List.set_cons_succ, List.getElem_toArray, List.getElem_cons_succ, List.getElem_cons_zero]
                refine wpAnyH_take (i := 3) (oi := _) (v := ?_) rfl (by kernel_rfl) (by kernel_rfl) (by kernel_rfl) (fun _ _ _ h => h) (Or.inl ⟨by rfl, ?_⟩) (by assumption) ?_
                rotate_left
                · intro w hSw; (try dsimp only at hSw); go_simp; try with_reducible rfl
                try simp only [Act.put, List.setIfInBounds_toArray, List.set_cons_zero, List.set_cons_succ, List.getElem_toArray, List.getElem_cons_succ, List.getElem_cons_zero]
                refine wpAnyH_take (i := 4) (oi := _) (v := ?_) rfl (by kernel_rfl) (by kernel_rfl) (by kernel_rfl) (fun _ _ _ h => h) (Or.inl ⟨by rfl, ?_⟩) (by assumption) ?_
                rotate_left
                · intro w hSw; (try dsimp only at hSw); go_simp; try with_reducible rfl
                try simp only [Act.put, List.setIfInBounds_toArray, List.set_cons_zero, List.set_cons_succ, List.getElem_toArray, List.getElem_cons_succ, List.getElem_cons_zero]
                refine wpAnyH_take (i := 5) (oi := _) (v := ?_) rfl (by kernel_rfl) (by kernel_rfl) (by kernel_rfl) (fun _ _ _ h => h) (Or.inl ⟨by rfl, ?_⟩) (by assumption) ?_
                rotate_left
                · intro w hSw; (try dsimp only at hSw); go_simp; try with_reducible rfl
                try simp only [Act.put, List.setIfInBounds_toArray, List.set_cons_zero, List.set_cons_succ, List.getElem_toArray, List.getElem_cons_succ, List.getElem_cons_zero]
                refine wpAnyH_take (i := 6) (oi := _) (v := ?_) rfl (by kernel_rfl) (by kernel_rfl) (by kernel_rfl) (fun _ _ _ h => h) (Or.inl ⟨by rfl, ?_⟩) (by assumption) ?_
                rotate_left
                · intro w hSw; (try dsimp only at hSw); go_simp; try with_reducible rfl
                try simp only [Act.put, List.setIfInBounds_toArray, List.set_cons_zero, List.set_cons_succ, List.getElem_toArray, List.getElem_cons_succ, List.getElem_cons_zero]
                refine wpAnyH_ready (rs := [2]) (by kernel_rfl) (by simp) ?_
                refine AllReadyH.cons rfl (fun K hK => ?_) AllReadyH.nil
                go_simp
                go_wp2_with (go_at_call 12; refine (LC.out _ _ _ _ YI.out).mono ?_; rintro e w15 ⟨s15, k15, rfl, q15, b15⟩)
                have BJ := Lib.hid (BI.out.below b15)
                have YJ := Lib.hid (YI.out.below b15)
                have CJ := Lib.hid (CI.out.below b15)
                have QJ := Lib.hid q15
                clear q15 b15
                refine hK.out _ _ ?_ (fun hHeld => ?_)
                · exact ⟨YJ.out.two, (CE.out _ CJ.out).1, (CE.out _ CJ.out).2 yi rfl⟩
                clear hK K
                refine wpAnyH_ready (rs := [7]) (by kernel_rfl) (by simp) ?_
                refine AllReadyH.cons rfl (fun K hK => ?_) AllReadyH.nil
                go_simp
                go_wp2_with (go_at_call 16; refine (LVz.out _ _ _ _ QJ.out).mono ?_; rintro e w16 ⟨rfl, b16⟩)
                have BK := Lib.hid (BJ.out.below b16)
                have YK := Lib.hid (YJ.out.below b16)
                have CK := Lib.hid (CJ.out.below b16)
                clear b16
                refine hK.out _ _ ?_ (fun hHeld => ?_)
                · exact ⟨YK.out.two, (CE.out _ CK.out).1, (CE.out _ CK.out).2 yi rfl⟩
                clear hK K
                refine wpAnyH_take (i := 8) (oi := _) (v := ?_) rfl (by kernel_rfl) (by kernel_rfl) (by kernel_rfl) (fun _ _ _ h => h) (Or.inl ⟨by rfl, ?_⟩) (by assumption) ?_
                rotate_left
                · intro w hSw; (try dsimp only at hSw); go_simp; try with_reducible rfl
                try simp only [Act.put, List.setIfInBounds_toArray, List.set_cons_zero, List.set_cons_succ, List.getElem_toArray, List.getElem_cons_succ, List.getElem_cons_zero]
                refine wpAnyH_done (by kernel_rfl) ?_ _
                have PF := Lib.hid (FIN.out _ BK.out YK.out CK.out)
                clear FIN CE BI YI CI BJ YJ CJ QJ BK YK CK LVz
                go_wp2
                try rw [hw1]
                try rw [hw2]
                exact ⟨PF.out, MES.out⟩
            · have hjl : ¬ yi < (ln : Int) := by have := HJ.out.1; omega
              have htk : l.take j = l := List.take_of_length_le (by have := HLN.out; omega)
              have hyo : yo = (opC T l : Int) := by have := HJ.out.2.2.1; rwa [htk] at this
              have hgg : gd = true ↔ GdL T l := by have := HJ.out.2.2.2; rwa [htk] at this
              have HGG := Lib.hid hgg
              have HYO := Lib.hid hyo
              have REL : Hid (∃ (k : Nat) (y2 : Int), Value.int .i64 (y + 1) = .int .i64 y2 ∧ Hid (y2 = (k : Int) ∧ k ≤ n + m) ∧ Hid (UW w b3 vars vs n vk cs s ms ts T0 wr) ∧ Hid (UN b7 s7 tn k7 conf 0 zv wr)) := ⟨k + 1, y + 1, rfl, ⟨by have := HY.out; omega, by have := HY.out; omega⟩, B15, Y15⟩
              have MES2 : Hid ((((n : Int) + (m : Int)) - (y + 1)).toNat < (((n : Int) + (m : Int)) - y).toNat) := by show _ < _; omega
              have hwy : wrap64 (y + 1) = y + 1 := wrap_in _ ⟨by omega, by omega⟩
              obtain ⟨yl, y0, y1, y2⟩ := Y15.out.facts
              clear HJ hyo hgg htk hj B15
              by_cases e1 : conf = y
              · obtain ⟨a1, a2⟩ := HFAL.out e1
                have hgf : gd = false := by
                  cases gd with
                  | true => exact absurd (HGG.out.1 rfl) a1
                  | false => rfl
                have hy0' : yo = 0 := by rw [HYO.out, a2]; rfl
                have e2 : (conf == y) = true := by rw [e1]; simp
                have e3 : (conf == -1) = false := beq_eq_false_iff_ne.2 (by omega)
                subst hgf
                subst hy0'
                clear HYO HGG HFAL HFIN HLIT a1 a2 e1 HK HY
                go_wp2
                try rw [hwy]
                exact ⟨REL.out, MES2.out⟩
              · have e2 : (conf == y) = false := beq_eq_false_iff_ne.2 e1
                by_cases e4 : conf = -1
                · have e3 : (conf == -1) = true := by rw [e4]; rfl
                  have hfi := HFIN.out e4
                  cases gd with
                  | true =>
                    clear HYO HGG HFAL HFIN HLIT e1 HK HY e4 hfi
                    go_wp2
                    try rw [hwy]
                    exact ⟨REL.out, MES2.out⟩
                  | false =>
                    have h2 : ¬ yo < 2 := by
                      rcases hfi with h | h
                      · have := HGG.out.2 h; cases this
                      · have := HYO.out; omega
                    clear HYO HGG HFAL HFIN HLIT e1 HK HY e4 hfi
                    go_wp2
                    try rw [hwy]
                    exact ⟨REL.out, MES2.out⟩
                · have e3 : (conf == -1) = false := beq_eq_false_iff_ne.2 e4
                  clear HYO HGG HFAL HFIN HLIT e1 HK HY e4
                  go_wp2
                  try rw [hwy]
                  exact ⟨REL.out, MES2.out⟩
        · have hlt : ¬ y < (n : Int) + (m : Int) := by have := HK.out.1; omega
          go_wp2
          go_ret
          exact ⟨rfl, B13.out.bel⟩
    · have hc' : (cd == 0) = false := beq_eq_false_iff_ne.2 hc
      go_wp2
      go_ret
      exact ⟨rfl, BS.out.bel⟩

end Go.Proofs.YtoobcodlgajieaaDoor
